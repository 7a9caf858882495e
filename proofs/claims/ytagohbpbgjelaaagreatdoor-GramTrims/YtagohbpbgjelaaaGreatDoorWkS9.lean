/- Sets: slices.Insert of one block. -/
import Derived.Test.YtagohbpbgjelaaaGreatDoorWkS8
import Derived.Deep.RegionLaw
namespace Go.Proofs.YtagohbpbgjelaaaGreatDoor.Wk
open Go.RowKit Go.Maps

set_option maxRecDepth 100000 in
theorem zj6:(Tryz.prog.info? 129).map (·.size)=some 2:=by kernel_rfl
set_option maxRecDepth 100000 in
theorem zg0 {O:Nat→Prop} {a w:World} (h:Off O a w) {g:Nat} (hg:O g∨a.heap.size≤g) (cs:Array Value):Off O a (w.setRow g cs) :=
 ⟨h.os,h.tape,h.output,by simpa [World.setRow] using h.size,fun k hk hn=>(setRow_other w g k cs (fun e=>by subst e;rcases hg with h1 | h1;exact hn h1;omega)).trans (h.block k hk hn)⟩
def zed (bl:List Blk) (i:Nat) (b:Blk):List Blk:=bl.take i ++ b::bl.drop i
set_option maxRecDepth 100000 in
theorem zkK (bl:List Blk) (i:Nat) (t:Int):zaQ (zed bl i (t,0))=(zaQ bl).take (i * 2) ++ ([.int .i64 t,.int .u64 0] ++ (zaQ bl).drop (i * 2)):=by
 unfold zed
 rw[zfs,zbX,zlz,zlA];rfl

set_option maxRecDepth 100000 in
theorem zju (w:World) (b g lb cb o:Nat) (x:Array Value) (cur:List Value) (hbg:b≠g) (hb:w.heap[b]? = some (.cells x 129 (0,0))) (hg:w.heap[g]? = some (.cells cur.toArray 129 (0,0))) (hc:0<cur.length) :
 (callFunc 164 #[.slice (some ⟨b,0,none⟩) 1 1,.slice (some ⟨g,o,none⟩) lb cb]).run Tryz.prog w=.ok (.value (.bool false)) w:=by
 rw[run_callFunc_extern Tryz.func164 (by kernel_rfl) (by kernel_rfl) (by kernel_rfl) (e:=Extern.SlicesOverlaps.overlaps #[124,124] #[4]) (by kernel_rfl),
  Lib.run_overlaps_apart w 124 4 129 Tryz.underlying124 2 (fun w=>by kernel_rfl) ⟨b,0,none⟩ ⟨g,o,none⟩ 1 1 lb cb hbg 129 129 x.size cur.length (by simp[World.shape?,hb]) (by simp[World.shape?,hg]) (by omega) (frozen_block hb 0) (frozen_block hb _)]
 rfl

set_option maxHeartbeats 8000000 in
set_option maxRecDepth 100000 in
theorem zjH (t:Int) (b g c i:Nat) (bl:List Blk) (cur:List Value) (hi:i<bl.length) (hc:bl.length+1≤c) (hcm:c≤maxLen) (hne:b≠g) (w:World) (hb:w.heap[b]? = some (.cells #[.int .i64 t,.int .u64 0] 129 (0,0)))
 (hg:w.heap[g]? = some (.cells cur.toArray 129 (0,0))) (hcl:cur.length=c * 2) (hcur:cur.take (bl.length * 2)=zaQ bl) :
 Calls Tryz.prog 144 #[.slice (some ⟨g,0,none⟩) bl.length c,.int .i64 i,.slice (some ⟨b,0,none⟩) 1 1] w fun e w'=>e=.returned (.slice (some ⟨g,0,none⟩) (bl.length+1) c)∧Off (fun k=>k=g) w w' ∧
  ∃ cur',w'.heap[g]? = some (.cells (List.toArray cur') 129 (0,0))∧cur'.length=c * 2∧cur'.take ((bl.length+1) * 2)=zaQ (zed bl i (t,0)):=by
 have hov:=fun lb cb o=>zju w b g lb cb o _ cur hne hb hg (by omega)
 have hfl:=zaX bl
 have hdl:((zaQ bl).drop (i * 2)).length=(bl.length - i) * 2:=by rw[List.length_drop,hfl];omega
 have hn9:c≤9223372036854775807:=by unfold maxLen at hcm;exact hcm
 have hcp1:∀ ty dc sc,(Builtin.copy_ #[124,124] ty #[.slice (some ⟨g,(i+1) * 2,none⟩) (bl.length+1 - (i+1)) dc,.slice (some ⟨g,i * 2,none⟩) (bl.length+1 - i) sc]).run Tryz.prog w.drew=.ok (goInt (Nat.min (bl.length+1 - i) (bl.length+1 - (i+1)))) (w.drew.setRow g (over cur (i * 2+2) ((zaQ bl).drop (i * 2))).toArray):=fun ty dc sc=>by
  rw[show (i+1) * 2=i * 2+2 by omega]
  exact run_copy_rows w.drew 124 124 ty 129 2 g (i * 2+2) (bl.length+1 - (i+1)) dc ⟨g,i * 2,none⟩ (bl.length+1 - i) sc cur 129 ((zaQ bl).drop (i * 2)) Tryz.underlying124 zj6 hg (by rw[hdl];simp only[Nat.min_def];split <;> omega)
   (fun j v hj=>by
    rw[List.getElem?_drop] at hj
    have e:(⟨g,i * 2,none⟩:Addr).add j=⟨g,i * 2+j,none⟩:=by unfold Addr.add;split <;> simp_all
    rw[e]
    refine cell_block (w:=w) hg _ _ ?_
    rw[← hcur,List.getElem?_take] at hj
    split at hj
    ·simpa using hj
    ·cases hj)
   (by rw[hdl,hcl];omega) (fun v hv=>ziN bl v (List.mem_of_mem_drop hv))
 have hl1:(over cur (i * 2+2) ((zaQ bl).drop (i * 2))).length=c * 2:=by rw[zdn _ _ _ (by rw[hdl];omega),hcl]
 have hend:(over (over cur (i * 2+2) ((zaQ bl).drop (i * 2))) (i * 2) [.int .i64 t,.int .u64 0]).take ((bl.length+1) * 2)=zaQ (zed bl i (t,0)):=by
  rw[zkK,show (bl.length+1) * 2=bl.length * 2+2 by omega]
  exact zmO hcur (by omega) rfl (by omega) (by omega)
 have hl2:(over (over cur (i * 2+2) ((zaQ bl).drop (i * 2))) (i * 2) [.int .i64 t,.int .u64 0]).length=c * 2:=by rw[zdn _ _ _ (by rw[hl1];simp;omega),hl1]
 obtain⟨C1,hC1⟩:∃ C1,C1=over cur (i * 2+2) ((zaQ bl).drop (i * 2)):=⟨_,rfl⟩
 rw[← hC1] at hcp1 hl1 hend hl2
 have hg1:(w.drew.setRow g C1.toArray).heap[g]? = some (.cells C1.toArray 129 (0,0)):=setRow_heap w.drew g _ _ 129 _ hg
 have hb1:(w.drew.setRow g C1.toArray).heap[b]? = some (.cells #[.int .i64 t,.int .u64 0] 129 (0,0)):=(setRow_other w.drew g b _ hne).trans hb
 obtain⟨W1,hW1⟩:∃ W1,W1=w.drew.setRow g C1.toArray:=⟨_,rfl⟩
 have ho1:Off (fun k=>k=g) w W1:=by rw[hW1];exact zg0 (O:=fun k=>k=g) (zku (off_refl _ _)) (.inl rfl) _
 rw[← hW1] at hcp1 hg1 hb1
 have hcp2:∀ W:World,W=W1→∀ ty dc,(Builtin.copy_ #[124,124] ty #[.slice (some ⟨g,i * 2,none⟩) (bl.length+1 - i) dc,.slice (some ⟨b,0,none⟩) 1 1]).run Tryz.prog W=.ok (goInt (Nat.min 1 (bl.length+1 - i))) (W1.setRow g (over C1 (i * 2) [.int .i64 t,.int .u64 0]).toArray):=fun W hW ty dc=>by
  subst hW
  exact run_copy_rows _ 124 124 ty 129 2 g (i * 2) (bl.length+1 - i) dc ⟨b,0,none⟩ 1 1 C1 129 [.int .i64 t,.int .u64 0] Tryz.underlying124 zj6 hg1 (by simp only[Nat.min_def,List.length_cons,List.length_nil];split <;> omega)
   (World.news_of_block hb1) (by simp;omega) (by simp[Value.oneCell'])
 have Hend:Hid (Off (fun k=>k=g) w (W1.setRow g (over C1 (i * 2) [.int .i64 t,.int .u64 0]).toArray)∧∃ cur',(W1.setRow g (over C1 (i * 2) [.int .i64 t,.int .u64 0]).toArray).heap[g]? = some (.cells (List.toArray cur') 129 (0,0))∧cur'.length=c * 2∧cur'.take ((bl.length+1) * 2)=zaQ (zed bl i (t,0))) :=
  zaa ⟨zg0 ho1 (.inl rfl) _,_,setRow_heap W1 g _ _ 129 _ hg1,hl2,hend⟩
 have hz2:¬ ((i:Int)=(bl.length:Int)):=by omega
 have hw1:IntKind.i64.wrap ((i:Int)+1)=(i:Int)+1:=by rw[IntKind.wrap_i64];omega
 have hw2:IntKind.i64.wrap ((bl.length:Int)+1)=(bl.length:Int)+1:=by rw[IntKind.wrap_i64];omega
 have hb1':(0:Int)≤(i:Int)+1:=by omega
 have hin:(i:Int)≤(bl.length:Int):=by omega
 have htn:((i:Int)+1).toNat=i+1:=by omega
 have htn2:((bl.length:Int)+1).toNat=bl.length+1:=by omega
 have hb2:¬ (c=i+1):=by omega
 have hb3:(i:Int)≤(bl.length:Int)+1:=by omega
 have hb4:¬ (c=i):=by omega
 have hb5:(bl.length:Int)+1≤c:=by omega
 have hb6:(i:Int)+1≤(bl.length:Int)+1:=by omega
 clear hcur hcl hend hl1 hl2 hg hb hg1 hb1 hdl hfl ho1 hW1 hC1
 go_enter Tryz.func144,Tryz.ntmps144
 go_wp2_with (simp only[hov])
 go_region_law (refine step_copy_known rfl (.tmp 73) (.tmp 76) 124 124 rfl (.slice (some ⟨g,(i+1) * 2,none⟩) (bl.length+1 - (i+1)) (c - (i+1))) (.slice (some ⟨g,i * 2,none⟩) (bl.length+1 - i) (c - i)) (by simp[Act.eval,Act.put]) (by simp[Act.eval,Act.put]) (hcp1 _ _ _) ?_)
 all_goals
  go_wp2_with (at_builtin;refine wpList_copy_known _ rfl _ _ 124 124 rfl (.slice (some ⟨g,i * 2,none⟩) (bl.length+1 - i) (c - i)) _ rfl rfl (hcp2 _ rfl _ _) ?_)
  go_ret
  exact⟨rfl,uh Hend⟩
end Go.Proofs.YtagohbpbgjelaaaGreatDoor.Wk

namespace Go.Proofs.YtagohbpbgjelaaaGreatDoor.Wk
open Go.RowKit Go.Maps

set_option maxRecDepth 100000 in
theorem below_row {B:Nat} {w0 w:World} (hb:Below B w0 w) (g:Nat) (hBg:B≤g) (cs:Array Value):Below B w0 (w.setRow g cs) :=
 ⟨hb.os,hb.tape,hb.output,by simpa [World.setRow] using hb.size,fun k hk=>(setRow_other w g k cs (by omega)).trans (hb.block k hk)⟩
set_option maxRecDepth 100000 in
theorem zfn (z:Array Value) (k:Nat):(Builtin.zeroCells z k).toList.length=k * z.size:=by
 simp[Builtin.zeroCells]
set_option maxHeartbeats 8000000 in
set_option maxRecDepth 100000 in
theorem zjI (t:Int) (b g c i:Nat) (bl:List Blk) (hi:i<bl.length) (hn40:bl.length≤1099511627776) (hc:c=bl.length) (w:World) (hb:w.heap[b]? = some (.cells #[.int .i64 t,.int .u64 0] 129 (0,0)))
 (hgl:g<w.heap.size) (hcell:∀ j v,(zaQ bl)[j]? = some v→w.cell? ⟨g,j,none⟩=some v) :
 Calls Tryz.prog 144 #[.slice (some ⟨g,0,none⟩) bl.length c,.int .i64 i,.slice (some ⟨b,0,none⟩) 1 1] w fun e w'=>∃ G,e=.returned (.slice (some ⟨w.heap.size,0,none⟩) (bl.length+1) G)∧Below w.heap.size w w'∧bl.length+1≤G∧G≤maxLen ∧
  ∃ cur',w'.heap[w.heap.size]? = some (.cells (List.toArray cur') 129 (0,0))∧cur'.length=G * 2∧cur'.take ((bl.length+1) * 2)=zaQ (zed bl i (t,0)):=by
 obtain⟨i0,hi0,hz0,hzs,hzb⟩:=zao hblk
 have hbl:=lt_of_some hb
 have hfl:=zaX bl
 have hdl:((zaQ bl).drop (i * 2)).length=(bl.length - i) * 2:=by rw[List.length_drop,hfl];omega
 have hadd:∀ k j,(⟨g,k,none⟩:Addr).add j=⟨g,k+j,none⟩:=fun k j=>by unfold Addr.add;split <;> simp_all
 have hold:(Builtin.firstCells i0.size i (.slice (some ⟨g,0,none⟩) i c)).run Tryz.prog w.drew=.ok ((zaQ bl).take (i * 2)).toArray w.drew:=by
  rw[hzs]
  exact run_firstCells_some w.drew 2 i ⟨g,0,none⟩ i c ((zaQ bl).take (i * 2)) (by rw[List.length_take,hfl];omega) (fun j v hj=>by
   rw[hadd,Nat.zero_add]
   rw[List.getElem?_take] at hj
   split at hj
   ·exact hcell j v hj
   ·cases hj)
 obtain⟨G,hG⟩:∃ G,G=grownCap w (bl.length+1) c 129:=⟨_,rfl⟩
 have hGn:bl.length+1≤G:=by rw[hG];exact grownCap_ge w _ _ _
 have hGm:G≤maxLen:=by rw[hG];exact grownCap_le_maxLen w (bl.length+1) c 129 (by unfold maxLen;omega)
 obtain⟨ROW,hROW⟩:∃ ROW:List Value,ROW=(zaQ bl).take (i * 2) ++ ((Builtin.zeroCells (Value.agg #[.int .i64 0,.int .u64 0]).cells (bl.length+1 - i)).toList ++ (Builtin.zeroCells (Value.agg #[.int .i64 0,.int .u64 0]).cells (G - (bl.length+1))).toList):=⟨_,rfl⟩
 have hRl:ROW.length=G * 2:=by
  rw[hROW,List.length_append,List.length_append,zfn,zfn,List.length_take,hfl]
  show min (i * 2) (bl.length * 2)+((bl.length+1 - i) * 2+(G - (bl.length+1)) * 2)=G * 2
  omega
 have hRt:ROW.take (i * 2)=(zaQ bl).take (i * 2):=by
  rw[hROW,List.take_append_of_le_length (by rw[List.length_take,hfl];omega),List.take_take,Nat.min_self]
 have hrz:∀ ty,(Builtin.append_ #[124,3] ty #[.slice (some ⟨g,0,none⟩) i c,.int .i64 ((bl.length:Int)+1 - (i:Int))]).run Tryz.prog w =
  .ok (.slice (some ⟨w.heap.size,0,none⟩) (bl.length+1) G) (w.drew.alloc (.cells ROW.toArray 129)):=fun ty=>by
  have h:=Lib.run_append_grow_zeros w 124 3 ty 129 i0 _ .i64 .i64 Tryz.underlying124 Tryz.underlying3 hi0 hz0 (some ⟨g,0,none⟩) i c ((zaQ bl).take (i * 2)) hold (bl.length+1 - i) (by omega) (by omega) (by omega) (by omega) (by rw[hzb];omega) (by rw[hzb,show i+(bl.length+1 - i)=bl.length+1 by omega];exact growslice_fits (by omega) (by omega))
  rw[show i+(bl.length+1 - i)=bl.length+1 by omega,← hG] at h
  have e:((zaQ bl).take (i * 2)).toArray ++ Builtin.zeroCells (Value.agg #[.int .i64 0,.int .u64 0]).cells (bl.length+1 - i) ++ Builtin.zeroCells (Value.agg #[.int .i64 0,.int .u64 0]).cells (G - (bl.length+1))=ROW.toArray:=by
   rw[hROW];apply Array.ext';simp
  rw[show (bl.length:Int)+1 - (i:Int)=((bl.length+1 - i:Nat):Int) by omega,h,e]
 have hb1:(w.drew.alloc (.cells ROW.toArray 129)).heap[b]? = some (.cells #[.int .i64 t,.int .u64 0] 129 (0,0)):=(Below.heap_alloc w.drew _ b hbl).trans hb
 have hs1:(w.drew.alloc (.cells ROW.toArray 129)).heap[w.heap.size]? = some (.cells ROW.toArray 129 (0,0)):=(MapKept.heap_alloc w.drew _).1
 have hc1:∀ j v,(zaQ bl)[j]? = some v→(w.drew.alloc (.cells ROW.toArray 129)).cell? ⟨g,j,none⟩=some v:=fun j v h=>(World.cell?_of_block (Below.heap_alloc w.drew _ g hgl)).trans (hcell j v h)
 obtain⟨C1,hC1⟩:∃ C1,C1=over ROW (i * 2) [.int .i64 t,.int .u64 0]:=⟨_,rfl⟩
 have hC1l:C1.length=G * 2:=by rw[hC1,zdn _ _ _ (by rw[hRl];simp;omega),hRl]
 have hcpA:∀ W:World,W.heap=(w.drew.alloc (.cells ROW.toArray 129)).heap→∀ ty dc,(Builtin.copy_ #[124,124] ty #[.slice (some ⟨w.heap.size,i * 2,none⟩) (bl.length+1 - i) dc,.slice (some ⟨b,0,none⟩) 1 1]).run Tryz.prog W=.ok (goInt (Nat.min 1 (bl.length+1 - i))) (W.setRow w.heap.size C1.toArray):=fun W hW ty dc=>by
  rw[hC1]
  exact run_copy_rows W 124 124 ty 129 2 w.heap.size (i * 2) (bl.length+1 - i) dc ⟨b,0,none⟩ 1 1 ROW 129 [.int .i64 t,.int .u64 0] Tryz.underlying124 zj6 (by rw[hW];exact hs1) (by simp only[Nat.min_def,List.length_cons,List.length_nil];split <;> omega)
   (World.news_of_block (by rw[hW];exact hb1)) (by rw[hRl];simp;omega) (by simp[Value.oneCell'])
 have hs2:((w.drew.alloc (.cells ROW.toArray 129)).setRow w.heap.size C1.toArray).heap[w.heap.size]? = some (.cells C1.toArray 129 (0,0)):=setRow_heap _ _ _ _ 129 _ hs1
 have hc2:∀ j v,(zaQ bl)[j]? = some v→((w.drew.alloc (.cells ROW.toArray 129)).setRow w.heap.size C1.toArray).cell? ⟨g,j,none⟩=some v:=fun j v h=>(World.cell?_of_block (setRow_other _ _ g _ (by omega))).trans (hc1 j v h)
 obtain⟨C2,hC2⟩:∃ C2,C2=over C1 (i * 2+2) ((zaQ bl).drop (i * 2)):=⟨_,rfl⟩
 have hC2l:C2.length=G * 2:=by rw[hC2,zdn _ _ _ (by rw[hC1l,hdl];omega),hC1l]
 have hC2t:C2.take ((bl.length+1) * 2)=zaQ (zed bl i (t,0)):=by
  rw[zkK,show (bl.length+1) * 2=bl.length * 2+2 by omega,hC2,hC1]
  exact zoU hRt hfl (by omega) rfl (by omega)
 have hcpB:∀ W:World,W.heap=((w.drew.alloc (.cells ROW.toArray 129)).setRow w.heap.size C1.toArray).heap→∀ ty dc sc,(Builtin.copy_ #[124,124] ty #[.slice (some ⟨w.heap.size,(i+1) * 2,none⟩) (bl.length+1 - (i+1)) dc,.slice (some ⟨g,i * 2,none⟩) (bl.length - i) sc]).run Tryz.prog W=.ok (goInt (Nat.min (bl.length - i) (bl.length+1 - (i+1)))) (W.setRow w.heap.size C2.toArray):=fun W hW ty dc sc=>by
  rw[hC2,show (i+1) * 2=i * 2+2 by omega]
  exact run_copy_rows W 124 124 ty 129 2 w.heap.size (i * 2+2) (bl.length+1 - (i+1)) dc ⟨g,i * 2,none⟩ (bl.length - i) sc C1 129 ((zaQ bl).drop (i * 2)) Tryz.underlying124 zj6 (by rw[hW];exact hs2) (by rw[hdl];simp only[Nat.min_def];split <;> omega)
   (fun j v hj=>by
    rw[List.getElem?_drop] at hj
    rw[hadd,show W.cell? ⟨g,i * 2+j,none⟩=((w.drew.alloc (.cells ROW.toArray 129)).setRow w.heap.size C1.toArray).cell? ⟨g,i * 2+j,none⟩ by exact World.cell?_of_block (by rw[hW])]
    exact hc2 _ _ hj)
   (by rw[hC1l,hdl];omega) (fun v hv=>ziN bl v (List.mem_of_mem_drop hv))
 have Hend:Hid (∀ W:World,Below w.heap.size w W→W.heap=((w.drew.alloc (.cells ROW.toArray 129)).setRow w.heap.size C1.toArray).heap→Below w.heap.size w (W.setRow w.heap.size C2.toArray)∧bl.length+1≤G∧G≤maxLen ∧
  ∃ cur',(W.setRow w.heap.size C2.toArray).heap[w.heap.size]? = some (.cells (List.toArray cur') 129 (0,0))∧cur'.length=G * 2∧cur'.take ((bl.length+1) * 2)=zaQ (zed bl i (t,0))) :=
  zaa (fun W hW hh=>⟨below_row hW _ (Nat.le_refl _) _,hGn,hGm,C2,setRow_heap W _ _ _ 129 _ (by rw[hh];exact hs2),hC2l,hC2t⟩)
 have Hbel:Hid (Below w.heap.size w ((w.alloc (.cells ROW.toArray 129)).drew.setRow w.heap.size C1.toArray).drew):=zaa (below_row ((Below.refl _ w).alloc (Nat.le_refl _) _).drew _ (Nat.le_refl _) _).drew
 have hE:((w.alloc (.cells ROW.toArray 129)).drew).heap=(w.drew.alloc (.cells ROW.toArray 129)).heap:=rfl
 have hF:(((w.alloc (.cells ROW.toArray 129)).drew.setRow w.heap.size C1.toArray).drew).heap=((w.drew.alloc (.cells ROW.toArray 129)).setRow w.heap.size C1.toArray).heap:=rfl
 have hz2:¬ ((i:Int)=(bl.length:Int)):=by omega
 have hw1:IntKind.i64.wrap ((i:Int)+1)=(i:Int)+1:=by rw[IntKind.wrap_i64];omega
 have hw2:IntKind.i64.wrap ((bl.length:Int)+1)=(bl.length:Int)+1:=by rw[IntKind.wrap_i64];omega
 have hw3:IntKind.i64.wrap ((bl.length:Int)+1 - i)=(bl.length:Int)+1 - i:=by rw[IntKind.wrap_i64];omega
 have hb1':(0:Int)≤(i:Int)+1:=by omega
 have hin:(i:Int)≤(bl.length:Int):=by omega
 have htn:((i:Int)+1).toNat=i+1:=by omega
 have hb2:¬ (G=i+1):=by omega
 have hb3:(i:Int)≤(bl.length:Int)+1:=by omega
 have hb4:¬ (c=i):=by omega
 have hb7:¬ (G=i):=by omega
 have hb5:(c:Int)<(bl.length:Int)+1:=by omega
 have hb6:(i:Int)+1≤(bl.length:Int)+1:=by omega
 have hb8:(i:Int)≤(c:Int):=by omega
 clear hcell hold hG hROW hRl hRt hC1 hC1l hC2 hC2l hC2t hs1 hs2 hc1 hc2 hb1 hb hdl hfl hGn hGm hadd hc
 go_enter Tryz.func144,Tryz.ntmps144
 go_wp2_with (first | (at_builtin;refine zeq _ rfl _ _ 124 3 rfl _ _ rfl rfl (hrz _) ?_) | (at_builtin;refine wpList_copy_known _ rfl _ _ 124 124 rfl (.slice (some ⟨w.heap.size,i * 2,none⟩) (bl.length+1 - i) (G - i)) _ rfl rfl (hcpA _ hE _ _) ?_))
 go_region_law (refine step_copy_known rfl (.tmp 50) (.tmp 53) 124 124 rfl (.slice (some ⟨w.heap.size,(i+1) * 2,none⟩) (bl.length+1 - (i+1)) (G - (i+1))) (.slice (some ⟨g,i * 2,none⟩) (bl.length - i) (c - i)) (by simp[Act.eval,Act.put]) (by simp[Act.eval,Act.put]) (hcpB _ hF _ _ _) ?_)
 all_goals
  go_wp2
  go_ret
  exact⟨G,rfl,uh Hend _ (uh Hbel) hF⟩
end Go.Proofs.YtagohbpbgjelaaaGreatDoor.Wk

namespace Go.Proofs.YtagohbpbgjelaaaGreatDoor.Wk
open Go.RowKit Go.Maps

set_option maxHeartbeats 8000000 in
set_option maxRecDepth 100000 in
theorem zg4 (t:Int) (b:Nat) (a:Option Addr) (c:Nat) (bl:List Blk) (hn40:bl.length≤1099511627776) (hac:a=none∨∃ g,a=some ⟨g,0,none⟩) (hcn:bl.length≤c) (w:World) (hb:w.heap[b]? = some (.cells #[.int .i64 t,.int .u64 0] 129 (0,0)))
 (hr:w.ownsRow 0 129 2 (.slice a bl.length c) bl.length (zaQ bl)) :
 Calls Tryz.prog 144 #[.slice a bl.length c,.int .i64 bl.length,.slice (some ⟨b,0,none⟩) 1 1] w fun e w'=>∃ g c',e=.returned (.slice (some ⟨g,0,none⟩) (bl.length+1) c')∧w'.ownsRow 0 129 2 (.slice (some ⟨g,0,none⟩) (bl.length+1) c') (bl.length+1) (zaQ bl ++ [.int .i64 t,.int .u64 0]) ∧
  ((Value.slice a bl.length c).ownBlock=some g∨w.heap.size≤g)∧Off (fun k=>(Value.slice a bl.length c).ownBlock=some k) w w':=by
 obtain⟨i0,hi,hz0,hz1,hz2⟩:=zao hblk
 have Hn:Hid (∀ j u,[Value.int .i64 t,.int .u64 0][j]? = some u→w.cell? ((⟨b,0,none⟩:Addr).add j)=some u):=zaa (World.news_of_block hb)
 have Hr:=zaa hr
 have hcn':(bl.length:Int)≤c:=by omega
 clear hb hr
 rcases hac with rfl | ⟨g0,rfl⟩
 all_goals
  by_cases hcc:c=bl.length
  all_goals
   go_enter Tryz.func144,Tryz.ntmps144
   go_wp2_with (at_builtin;refine wpList_append_lies _ rfl _ _ 124 rfl 0 129 i0 (.agg #[.int .i64 0,.int .u64 0]) 2 16 Tryz.underlying124 hi hz0 hz1 hz2 rfl (by decide) _ bl.length (zaQ bl) rfl (uh Hr) ⟨b,0,none⟩ 1 1 [.int .i64 t,.int .u64 0] rfl rfl (uh Hn) (by simp[Value.oneCell']) (by decide) (by unfold maxLen;omega) (by omega) (Nat.zero_le _) w.heap.size rfl ?_)
   intro g cap W1 hown hgr hgv hgl
   have Hgr:=zaa hgr
   have Hown:=zaa hown
   have Hgv:=zaa hgv
   clear hown hgr hgv
   go_wp2
   go_ret
   exact⟨g,cap,rfl,uh Hown,(uh Hgv).imp (fun h=>h) (fun h=>by omega),zde (off_refl _ w) (uh Hgr) (fun k hk=>.inl hk)⟩

set_option maxRecDepth 100000 in
theorem zcO (bl:List Blk) (i:Nat) (b:Blk) (hi:i≤bl.length):(zed bl i b).length=bl.length+1:=by unfold zed;simp;omega
set_option maxRecDepth 100000 in
theorem zlw (t:Int) (b i:Nat) (sv:Value) (bl:List Blk) (hi:i≤bl.length) (hn40:bl.length≤1099511627776) (w:World) (hb:w.heap[b]? = some (.cells #[.int .i64 t,.int .u64 0] 129 (0,0)))
 (hne:sv.ownBlock≠some b) (hr:w.ownsRow 0 129 2 sv bl.length (zaQ bl)) :
 Calls Tryz.prog 144 #[sv,.int .i64 i,.slice (some ⟨b,0,none⟩) 1 1] w fun e w'=>∃ g c,e=.returned (.slice (some ⟨g,0,none⟩) (bl.length+1) c)∧w'.ownsRow 0 129 2 (.slice (some ⟨g,0,none⟩) (bl.length+1) c) (bl.length+1) (zaQ (zed bl i (t,0))) ∧
  (sv.ownBlock=some g∨w.heap.size≤g)∧Off (fun k=>sv.ownBlock=some k) w w':=by
 by_cases hin:i=bl.length
 ·subst hin
  have e:zaQ (zed bl bl.length (t,0))=zaQ bl ++ [.int .i64 t,.int .u64 0]:=by
   unfold zed;rw[List.take_length,List.drop_length,zfs];rfl
  rw[e]
  rcases hr.2 with ⟨hv,h0⟩ | ⟨g,cap,cur,hv,-,-,h1,h2,-⟩
  ·have hbl:bl.length=0:=h0
   subst hv
   have hr':=hr
   rw[show (Value.slice none 0 0)=Value.slice none bl.length 0 by rw[hbl]] at hr' ⊢
   exact zg4 t b none 0 bl hn40 (.inl rfl) (by omega) w hb hr'
  ·subst hv
   exact zg4 t b (some ⟨g,0,none⟩) cap bl hn40 (.inr ⟨g,rfl⟩) h1 w hb hr
 ·have hlt:i<bl.length:=by omega
  rcases hr.2 with ⟨-,h0⟩ | ⟨g,cap,cur,hv,-,hg,h1,h2,h3,h4⟩
  ·omega
  ·subst hv
   have hbg:b≠g:=fun e=>hne (by rw[e];rfl)
   by_cases hroom:bl.length+1≤cap
   ·refine(zjH t b g cap i bl cur.toList hlt hroom h2 hbg w hb (by simpa using hg) (by simpa using h3) h4).mono fun e w' ⟨e1,e2,cur',e3,e4,e5⟩=>?_
    refine⟨g,cap,e1,⟨?_,.inr ⟨g,cap,cur'.toArray,rfl,Nat.zero_le _,e3,hroom,h2,by simpa using e4,by simpa using e5⟩⟩,.inl rfl,zkt e2 (fun k hk=>.inl (by rw[hk];rfl))⟩
    rw[zaX,zcO _ _ _ hi]
   ·have hc:cap=bl.length:=by omega
    refine(zjI t b g cap i bl hlt hn40 hc w hb (lt_of_some hg) (fun j v hj=>?_)).mono fun e w' ⟨G,e1,e2,e6,e7,cur',e3,e4,e5⟩=>?_
    ·have:=hr.cells (g:=g) rfl j v hj
     have ea:(⟨g,0,none⟩:Addr).add j=⟨g,j,none⟩:=by unfold Addr.add;split <;> simp_all
     rw[ea] at this
     exact this
    ·refine⟨w.heap.size,G,e1,⟨?_,.inr ⟨w.heap.size,G,cur'.toArray,rfl,Nat.zero_le _,e3,e6,e7,by simpa using e4,by simpa using e5⟩⟩,.inr (Nat.le_refl _),zbx e2⟩
     rw[zaX,zcO _ _ _ hi]
end Go.Proofs.YtagohbpbgjelaaaGreatDoor.Wk

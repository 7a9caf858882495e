import Derived.Test.YtieciibnajeibaaGreatDoorWkS8
import Derived.Deep.RegionLaw
set_option maxHeartbeats 8000000
set_option maxRecDepth 100000
namespace Go.Proofs.YtieciibnajeibaaGreatDoor.Wk
open Go.RowKit Go.Maps
theorem zmc:(Tryz.prog.info? 244).map (·.size)=some 2:=by kernel_rfl
variable{B X i k q:Nat}{O:Nat->Prop}{P:Program}{a b bl:List Blk}{l:List Nat}{n s y:Int}{w w':World}
theorem zhX{a:World}(h:Off O a w){g:Nat}(hg:O g\/a.heap.size<=g)(cs:Array Value):Off O a (w.setRow g cs) :=
 ⟨h.os,h.tape,h.output,by simpa [World.setRow] using h.size,λk hk hn=>(setRow_other w g k cs (λe=>by subst e;rcases hg with h1 | h1;exact hn h1;omega)).trans (h.block k hk hn)⟩
def zel(bl:List Blk)(i:Nat)(b:Blk):List Blk:=bl.take i ++ b::bl.drop i
theorem zmR(bl:List Blk)(i:Nat)(t:Int):zaF (zel bl i (t,0))=(zaF bl).take (i * 2) ++ ([.int .i64 t,.int .u64 0] ++ (zaF bl).drop (i * 2)):=by
 unfold zel;rw[zf5,zbJ,zn6,zn7];rfl
theorem zlf(w:World)(b g lb cb o:Nat)(x:Array Value)(cur:List Value)(hbg:b≠g)(hb:w.heap[b]? = some (.cells x 244 (0,0)))(hg:w.heap[g]? = some (.cells cur.toArray 244 (0,0)))(hc:0<cur.length) :
 (callFunc 230 #[.slice (some ⟨b,0,none⟩) 1 1,.slice (some ⟨g,o,none⟩) lb cb]).run Tryz.prog w=.ok (.value (.bool false)) w:=by
 rw[run_callFunc_extern Tryz.func230 (by kernel_rfl) (by kernel_rfl) (by kernel_rfl) (e:=Extern.SlicesOverlaps.overlaps #[231,231] #[4]) (by kernel_rfl),
  Lib.run_overlaps_apart w 231 4 244 Tryz.underlying231 2 (λw=>by kernel_rfl) ⟨b,0,none⟩ ⟨g,o,none⟩ 1 1 lb cb hbg 244 244 x.size cur.length (by simp[World.shape?,hb]) (by simp[World.shape?,hg]) (by omega) (frozen_block hb 0) (frozen_block hb _)]
 rfl
theorem zlA(t:Int)(b g c i:Nat)(bl:List Blk)(cur:List Value)(hi:i<bl.length)(hc:bl.length+1<=c)(hcm:c<=maxLen)(hne:b≠g)(w:World)(hb:w.heap[b]? = some (.cells #[.int .i64 t,.int .u64 0] 244 (0,0)))
 (hg:w.heap[g]? = some (.cells cur.toArray 244 (0,0))) (hcl:cur.length=c * 2) (hcur:cur.take (bl.length * 2)=zaF bl) :
 Calls Tryz.prog 203 #[.slice (some ⟨g,0,none⟩) bl.length c,.int .i64 i,.slice (some ⟨b,0,none⟩) 1 1] w λe w'=>e=.returned (.slice (some ⟨g,0,none⟩) (bl.length+1) c)/\Off (λk=>k=g) w w' /\
  ∃ cur',w'.heap[g]? = some (.cells (List.toArray cur') 244 (0,0))/\cur'.length=c * 2/\cur'.take ((bl.length+1) * 2)=zaF (zel bl i (t,0)):=by
 have hov:=λlb cb o=>zlf w b g lb cb o _ cur hne hb hg (by omega);have hfl:=zaN bl;have hdl:((zaF bl).drop (i * 2)).length=(bl.length - i) * 2:=by rw[List.length_drop,hfl];omega
 have hn9:c<=9223372036854775807:=by unfold maxLen at hcm;exact hcm
 have hcp1:∀ ty dc sc,(Builtin.copy_ #[231,231] ty #[.slice (some ⟨g,(i+1) * 2,none⟩) (bl.length+1 - (i+1)) dc,.slice (some ⟨g,i * 2,none⟩) (bl.length+1 - i) sc]).run Tryz.prog w.drew=.ok (goInt (Nat.min (bl.length+1 - i) (bl.length+1 - (i+1)))) (w.drew.setRow g (over cur (i * 2+2) ((zaF bl).drop (i * 2))).toArray):=λty dc sc=>by
  rw[show (i+1) * 2=i * 2+2 by omega];exact run_copy_rows w.drew 231 231 ty 244 2 g (i * 2+2) (bl.length+1 - (i+1)) dc ⟨g,i * 2,none⟩ (bl.length+1 - i) sc cur 244 ((zaF bl).drop (i * 2)) Tryz.underlying231 zmc hg (by rw[hdl];simp only[Nat.min_def];split <;> omega)
   (λj v hj=>by
    rw[List.getElem?_drop] at hj;have e:(⟨g,i * 2,none⟩:Addr).add j=⟨g,i * 2+j,none⟩:=by unfold Addr.add;split <;> simp_all
    rw[e];refine cell_block (w:=w) hg _ _ ?_;rw[<- hcur,List.getElem?_take] at hj
    split at hj
    ·simpa using hj
    ·cases hj)
   (by rw[hdl,hcl];omega) (λv hv=>zhc bl v (List.mem_of_mem_drop hv))
 have hl1:(over cur (i * 2+2) ((zaF bl).drop (i * 2))).length=c * 2:=by rw[over_length _ _ _ (by rw[hdl];omega),hcl]
 have hend:(over (over cur (i * 2+2) ((zaF bl).drop (i * 2))) (i * 2) [.int .i64 t,.int .u64 0]).take ((bl.length+1) * 2)=zaF (zel bl i (t,0)):=by
  rw[zmR,show (bl.length+1) * 2=bl.length * 2+2 by omega];exact zpy hcur (by omega) rfl (by omega) (by omega)
 have hl2:(over (over cur (i * 2+2) ((zaF bl).drop (i * 2))) (i * 2) [.int .i64 t,.int .u64 0]).length=c * 2:=by rw[over_length _ _ _ (by rw[hl1];simp;omega),hl1]
 obtain⟨C1,hC1⟩:∃ C1,C1=over cur (i * 2+2) ((zaF bl).drop (i * 2)):=⟨_,rfl⟩;rw[<- hC1] at hcp1 hl1 hend hl2;have hg1:(w.drew.setRow g C1.toArray).heap[g]? = some (.cells C1.toArray 244 (0,0)):=setRow_heap w.drew g _ _ 244 _ hg;have hb1:(w.drew.setRow g C1.toArray).heap[b]? = some (.cells #[.int .i64 t,.int .u64 0] 244 (0,0)):=(setRow_other w.drew g b _ hne).trans hb;obtain⟨W1,hW1⟩:∃ W1,W1=w.drew.setRow g C1.toArray:=⟨_,rfl⟩;have ho1:Off (λk=>k=g) w W1:=by rw[hW1];exact zhX (O:=λk=>k=g) (zmw (zaJ _ _)) (.inl rfl) _
 rw[<- hW1] at hcp1 hg1 hb1;have hcp2:∀ W:World,W=W1->∀ ty dc,(Builtin.copy_ #[231,231] ty #[.slice (some ⟨g,i * 2,none⟩) (bl.length+1 - i) dc,.slice (some ⟨b,0,none⟩) 1 1]).run Tryz.prog W=.ok (goInt (Nat.min 1 (bl.length+1 - i))) (W1.setRow g (over C1 (i * 2) [.int .i64 t,.int .u64 0]).toArray):=λW hW ty dc=>by
  subst hW;exact run_copy_rows _ 231 231 ty 244 2 g (i * 2) (bl.length+1 - i) dc ⟨b,0,none⟩ 1 1 C1 244 [.int .i64 t,.int .u64 0] Tryz.underlying231 zmc hg1 (by simp only[Nat.min_def,List.length_cons,List.length_nil];split <;> omega)
   (World.news_of_block hb1) (by simp;omega) (by simp[Value.oneCell'])
 have Hend:Hid (Off (λk=>k=g) w (W1.setRow g (over C1 (i * 2) [.int .i64 t,.int .u64 0]).toArray)/\∃ cur',(W1.setRow g (over C1 (i * 2) [.int .i64 t,.int .u64 0]).toArray).heap[g]? = some (.cells (List.toArray cur') 244 (0,0))/\cur'.length=c * 2/\cur'.take ((bl.length+1) * 2)=zaF (zel bl i (t,0))) :=
  zaa ⟨zhX ho1 (.inl rfl) _,_,setRow_heap W1 g _ _ 244 _ hg1,hl2,hend⟩
 have hz2:¬ ((i:Int)=(bl.length:Int)):=by omega
 have hw1:IntKind.i64.wrap ((i:Int)+1)=(i:Int)+1:=by rw[IntKind.wrap_i64];omega
 have hw2:IntKind.i64.wrap ((bl.length:Int)+1)=(bl.length:Int)+1:=by rw[IntKind.wrap_i64];omega
 have hb1':(0:Int)<=(i:Int)+1:=by omega
 have hin:(i:Int)<=(bl.length:Int):=by omega
 have htn:((i:Int)+1).toNat=i+1:=by omega
 have htn2:((bl.length:Int)+1).toNat=bl.length+1:=by omega
 have hb2:¬ (c=i+1):=by omega
 have hb3:(i:Int)<=(bl.length:Int)+1:=by omega
 have hb4:¬ (c=i):=by omega
 have hb5:(bl.length:Int)+1<=c:=by omega
 have hb6:(i:Int)+1<=(bl.length:Int)+1:=by omega
 clear hcur hcl hend hl1 hl2 hg hb hg1 hb1 hdl hfl ho1 hW1 hC1;go_enter Tryz.func203,Tryz.ntmps203;go_wp2_with (simp only[hov])
 go_region_law (refine step_copy_known rfl (.tmp 73) (.tmp 76) 231 231 rfl (.slice (some ⟨g,(i+1) * 2,none⟩) (bl.length+1 - (i+1)) (c - (i+1))) (.slice (some ⟨g,i * 2,none⟩) (bl.length+1 - i) (c - i)) (by simp[Act.eval,Act.put]) (by simp[Act.eval,Act.put]) (hcp1 _ _ _) ?_)
 all_goals
  go_wp2_with (at_builtin;refine wpList_copy_known _ rfl _ _ 231 231 rfl (.slice (some ⟨g,i * 2,none⟩) (bl.length+1 - i) (c - i)) _ rfl rfl (hcp2 _ rfl _ _) ?_);go_ret;exact⟨rfl,uh Hend⟩
theorem below_row{w0:World}(hb:Below B w0 w)(g:Nat)(hBg:B<=g)(cs:Array Value):Below B w0 (w.setRow g cs) :=
 ⟨hb.os,hb.tape,hb.output,by simpa [World.setRow] using hb.size,λk hk=>(setRow_other w g k cs (by omega)).trans (hb.block k hk)⟩
theorem zeros_length(z:Array Value)(k:Nat):(Builtin.zeroCells z k).toList.length=k * z.size:=by
 simp[Builtin.zeroCells]
theorem zlB(t:Int)(b g c i:Nat)(bl:List Blk)(hi:i<bl.length)(hn40:bl.length<=1099511627776)(hc:c=bl.length)(w:World)(hb:w.heap[b]? = some (.cells #[.int .i64 t,.int .u64 0] 244 (0,0)))
 (hgl:g<w.heap.size) (hcell:∀ j v,(zaF bl)[j]? = some v->w.cell? ⟨g,j,none⟩=some v) :
 Calls Tryz.prog 203 #[.slice (some ⟨g,0,none⟩) bl.length c,.int .i64 i,.slice (some ⟨b,0,none⟩) 1 1] w λe w'=>∃ G,e=.returned (.slice (some ⟨w.heap.size,0,none⟩) (bl.length+1) G)/\Below w.heap.size w w'/\bl.length+1<=G/\G<=maxLen /\
  ∃ cur',w'.heap[w.heap.size]? = some (.cells (List.toArray cur') 244 (0,0))/\cur'.length=G * 2/\cur'.take ((bl.length+1) * 2)=zaF (zel bl i (t,0)):=by
 obtain⟨i0,hi0,hz0,hzs,hzb⟩:=zah hblk;have hbl:=lt_of_some hb;have hfl:=zaN bl;have hdl:((zaF bl).drop (i * 2)).length=(bl.length - i) * 2:=by rw[List.length_drop,hfl];omega
 have hadd:∀ k j,(⟨g,k,none⟩:Addr).add j=⟨g,k+j,none⟩:=λk j=>by unfold Addr.add;split <;> simp_all
 have hold:(Builtin.firstCells i0.size i (.slice (some ⟨g,0,none⟩) i c)).run Tryz.prog w.drew=.ok ((zaF bl).take (i * 2)).toArray w.drew:=by
  rw[hzs]
  exact run_firstCells_some w.drew 2 i ⟨g,0,none⟩ i c ((zaF bl).take (i * 2)) (by rw[List.length_take,hfl];omega) (λj v hj=>by
   rw[hadd,Nat.zero_add];rw[List.getElem?_take] at hj
   split at hj
   ·exact hcell j v hj
   ·cases hj)
 obtain⟨G,hG⟩:∃ G,G=grownCap w (bl.length+1) c 244:=⟨_,rfl⟩;have hGn:bl.length+1<=G:=by rw[hG];exact grownCap_ge w _ _ _
 have hGm:G<=maxLen:=by rw[hG];exact grownCap_le_maxLen w (bl.length+1) c 244 (by unfold maxLen;omega)
 obtain⟨ROW,hROW⟩:∃ ROW:List Value,ROW=(zaF bl).take (i * 2) ++ ((Builtin.zeroCells (Value.agg #[.int .i64 0,.int .u64 0]).cells (bl.length+1 - i)).toList ++ (Builtin.zeroCells (Value.agg #[.int .i64 0,.int .u64 0]).cells (G - (bl.length+1))).toList):=⟨_,rfl⟩;have hRl:ROW.length=G * 2:=by
  rw[hROW,List.length_append,List.length_append,zeros_length,zeros_length,List.length_take,hfl];show min (i * 2) (bl.length * 2)+((bl.length+1 - i) * 2+(G - (bl.length+1)) * 2)=G * 2;omega
 have hRt:ROW.take (i * 2)=(zaF bl).take (i * 2):=by
  rw[hROW,List.take_append_of_le_length (by rw[List.length_take,hfl];omega),List.take_take,Nat.min_self]
 have hrz:∀ ty,(Builtin.append_ #[231,3] ty #[.slice (some ⟨g,0,none⟩) i c,.int .i64 ((bl.length:Int)+1 - (i:Int))]).run Tryz.prog w =
  .ok (.slice (some ⟨w.heap.size,0,none⟩) (bl.length+1) G) (w.drew.alloc (.cells ROW.toArray 244)):=λty=>by
  have h:=Lib.run_append_grow_zeros w 231 3 ty 244 i0 _ .i64 .i64 Tryz.underlying231 Tryz.underlying3 hi0 hz0 (some ⟨g,0,none⟩) i c ((zaF bl).take (i * 2)) hold (bl.length+1 - i) (by omega) (by omega) (by omega) (by omega) (by rw[hzb];omega) (by rw[hzb,show i+(bl.length+1 - i)=bl.length+1 by omega];exact growslice_fits (by omega) (by omega));rw[show i+(bl.length+1 - i)=bl.length+1 by omega,<- hG] at h;have e:((zaF bl).take (i * 2)).toArray ++ Builtin.zeroCells (Value.agg #[.int .i64 0,.int .u64 0]).cells (bl.length+1 - i) ++ Builtin.zeroCells (Value.agg #[.int .i64 0,.int .u64 0]).cells (G - (bl.length+1))=ROW.toArray:=by
   rw[hROW];apply Array.ext';simp
  rw[show (bl.length:Int)+1 - (i:Int)=((bl.length+1 - i:Nat):Int) by omega,h,e]
 have hb1:(w.drew.alloc (.cells ROW.toArray 244)).heap[b]? = some (.cells #[.int .i64 t,.int .u64 0] 244 (0,0)):=(Below.heap_alloc w.drew _ b hbl).trans hb;have hs1:(w.drew.alloc (.cells ROW.toArray 244)).heap[w.heap.size]? = some (.cells ROW.toArray 244 (0,0)):=(MapKept.heap_alloc w.drew _).1;have hc1:∀ j v,(zaF bl)[j]? = some v->(w.drew.alloc (.cells ROW.toArray 244)).cell? ⟨g,j,none⟩=some v:=λj v h=>(World.cell?_of_block (Below.heap_alloc w.drew _ g hgl)).trans (hcell j v h);obtain⟨C1,hC1⟩:∃ C1,C1=over ROW (i * 2) [.int .i64 t,.int .u64 0]:=⟨_,rfl⟩;have hC1l:C1.length=G * 2:=by rw[hC1,over_length _ _ _ (by rw[hRl];simp;omega),hRl]
 have hcpA:∀ W:World,W.heap=(w.drew.alloc (.cells ROW.toArray 244)).heap->∀ ty dc,(Builtin.copy_ #[231,231] ty #[.slice (some ⟨w.heap.size,i * 2,none⟩) (bl.length+1 - i) dc,.slice (some ⟨b,0,none⟩) 1 1]).run Tryz.prog W=.ok (goInt (Nat.min 1 (bl.length+1 - i))) (W.setRow w.heap.size C1.toArray):=λW hW ty dc=>by
  rw[hC1];exact run_copy_rows W 231 231 ty 244 2 w.heap.size (i * 2) (bl.length+1 - i) dc ⟨b,0,none⟩ 1 1 ROW 244 [.int .i64 t,.int .u64 0] Tryz.underlying231 zmc (by rw[hW];exact hs1) (by simp only[Nat.min_def,List.length_cons,List.length_nil];split <;> omega)
   (World.news_of_block (by rw[hW];exact hb1)) (by rw[hRl];simp;omega) (by simp[Value.oneCell'])
 have hs2:((w.drew.alloc (.cells ROW.toArray 244)).setRow w.heap.size C1.toArray).heap[w.heap.size]? = some (.cells C1.toArray 244 (0,0)):=setRow_heap _ _ _ _ 244 _ hs1;have hc2:∀ j v,(zaF bl)[j]? = some v->((w.drew.alloc (.cells ROW.toArray 244)).setRow w.heap.size C1.toArray).cell? ⟨g,j,none⟩=some v:=λj v h=>(World.cell?_of_block (setRow_other _ _ g _ (by omega))).trans (hc1 j v h);obtain⟨C2,hC2⟩:∃ C2,C2=over C1 (i * 2+2) ((zaF bl).drop (i * 2)):=⟨_,rfl⟩;have hC2l:C2.length=G * 2:=by rw[hC2,over_length _ _ _ (by rw[hC1l,hdl];omega),hC1l]
 have hC2t:C2.take ((bl.length+1) * 2)=zaF (zel bl i (t,0)):=by
  rw[zmR,show (bl.length+1) * 2=bl.length * 2+2 by omega,hC2,hC1];exact zsu hRt hfl (by omega) rfl (by omega)
 have hcpB:∀ W:World,W.heap=((w.drew.alloc (.cells ROW.toArray 244)).setRow w.heap.size C1.toArray).heap->∀ ty dc sc,(Builtin.copy_ #[231,231] ty #[.slice (some ⟨w.heap.size,(i+1) * 2,none⟩) (bl.length+1 - (i+1)) dc,.slice (some ⟨g,i * 2,none⟩) (bl.length - i) sc]).run Tryz.prog W=.ok (goInt (Nat.min (bl.length - i) (bl.length+1 - (i+1)))) (W.setRow w.heap.size C2.toArray):=λW hW ty dc sc=>by
  rw[hC2,show (i+1) * 2=i * 2+2 by omega];exact run_copy_rows W 231 231 ty 244 2 w.heap.size (i * 2+2) (bl.length+1 - (i+1)) dc ⟨g,i * 2,none⟩ (bl.length - i) sc C1 244 ((zaF bl).drop (i * 2)) Tryz.underlying231 zmc (by rw[hW];exact hs2) (by rw[hdl];simp only[Nat.min_def];split <;> omega)
   (λj v hj=>by
    rw[List.getElem?_drop] at hj;rw[hadd,show W.cell? ⟨g,i * 2+j,none⟩=((w.drew.alloc (.cells ROW.toArray 244)).setRow w.heap.size C1.toArray).cell? ⟨g,i * 2+j,none⟩ by exact World.cell?_of_block (by rw[hW])]
    exact hc2 _ _ hj)
   (by rw[hC1l,hdl];omega) (λv hv=>zhc bl v (List.mem_of_mem_drop hv))
 have Hend:Hid (∀ W:World,Below w.heap.size w W->W.heap=((w.drew.alloc (.cells ROW.toArray 244)).setRow w.heap.size C1.toArray).heap->Below w.heap.size w (W.setRow w.heap.size C2.toArray)/\bl.length+1<=G/\G<=maxLen /\
  ∃ cur',(W.setRow w.heap.size C2.toArray).heap[w.heap.size]? = some (.cells (List.toArray cur') 244 (0,0))/\cur'.length=G * 2/\cur'.take ((bl.length+1) * 2)=zaF (zel bl i (t,0))) :=
  zaa (λW hW hh=>⟨below_row hW _ (Nat.le_refl _) _,hGn,hGm,C2,setRow_heap W _ _ _ 244 _ (by rw[hh];exact hs2),hC2l,hC2t⟩)
 have Hbel:Hid (Below w.heap.size w ((w.alloc (.cells ROW.toArray 244)).drew.setRow w.heap.size C1.toArray).drew):=zaa (below_row ((Below.refl _ w).alloc (Nat.le_refl _) _).drew _ (Nat.le_refl _) _).drew;have hE:((w.alloc (.cells ROW.toArray 244)).drew).heap=(w.drew.alloc (.cells ROW.toArray 244)).heap:=rfl;have hF:(((w.alloc (.cells ROW.toArray 244)).drew.setRow w.heap.size C1.toArray).drew).heap=((w.drew.alloc (.cells ROW.toArray 244)).setRow w.heap.size C1.toArray).heap:=rfl;have hz2:¬ ((i:Int)=(bl.length:Int)):=by omega
 have hw1:IntKind.i64.wrap ((i:Int)+1)=(i:Int)+1:=by rw[IntKind.wrap_i64];omega
 have hw2:IntKind.i64.wrap ((bl.length:Int)+1)=(bl.length:Int)+1:=by rw[IntKind.wrap_i64];omega
 have hw3:IntKind.i64.wrap ((bl.length:Int)+1 - i)=(bl.length:Int)+1 - i:=by rw[IntKind.wrap_i64];omega
 have hb1':(0:Int)<=(i:Int)+1:=by omega
 have hin:(i:Int)<=(bl.length:Int):=by omega
 have htn:((i:Int)+1).toNat=i+1:=by omega
 have hb2:¬ (G=i+1):=by omega
 have hb3:(i:Int)<=(bl.length:Int)+1:=by omega
 have hb4:¬ (c=i):=by omega
 have hb7:¬ (G=i):=by omega
 have hb5:(c:Int)<(bl.length:Int)+1:=by omega
 have hb6:(i:Int)+1<=(bl.length:Int)+1:=by omega
 have hb8:(i:Int)<=(c:Int):=by omega
 clear hcell hold hG hROW hRl hRt hC1 hC1l hC2 hC2l hC2t hs1 hs2 hc1 hc2 hb1 hb hdl hfl hGn hGm hadd hc;go_enter Tryz.func203,Tryz.ntmps203;go_wp2_with (first | (at_builtin;refine zeA _ rfl _ _ 231 3 rfl _ _ rfl rfl (hrz _) ?_) | (at_builtin;refine wpList_copy_known _ rfl _ _ 231 231 rfl (.slice (some ⟨w.heap.size,i * 2,none⟩) (bl.length+1 - i) (G - i)) _ rfl rfl (hcpA _ hE _ _) ?_))
 go_region_law (refine step_copy_known rfl (.tmp 50) (.tmp 53) 231 231 rfl (.slice (some ⟨w.heap.size,(i+1) * 2,none⟩) (bl.length+1 - (i+1)) (G - (i+1))) (.slice (some ⟨g,i * 2,none⟩) (bl.length - i) (c - i)) (by simp[Act.eval,Act.put]) (by simp[Act.eval,Act.put]) (hcpB _ hF _ _ _) ?_)
 all_goals
  go_wp2;go_ret;exact⟨G,rfl,uh Hend _ (uh Hbel) hF⟩
theorem zh5(t:Int)(b:Nat)(a:Option Addr)(c:Nat)(bl:List Blk)(hn40:bl.length<=1099511627776)(hac:a=none\/∃ g,a=some ⟨g,0,none⟩)(hcn:bl.length<=c)(w:World)(hb:w.heap[b]? = some (.cells #[.int .i64 t,.int .u64 0] 244 (0,0)))
 (hr:w.ownsRow 0 244 2 (.slice a bl.length c) bl.length (zaF bl)) :
 Calls Tryz.prog 203 #[.slice a bl.length c,.int .i64 bl.length,.slice (some ⟨b,0,none⟩) 1 1] w λe w'=>∃ g c',e=.returned (.slice (some ⟨g,0,none⟩) (bl.length+1) c')/\w'.ownsRow 0 244 2 (.slice (some ⟨g,0,none⟩) (bl.length+1) c') (bl.length+1) (zaF bl ++ [.int .i64 t,.int .u64 0]) /\
  ((Value.slice a bl.length c).ownBlock=some g\/w.heap.size<=g)/\Off (λk=>(Value.slice a bl.length c).ownBlock=some k) w w':=by
 obtain⟨i0,hi,hz0,hz1,hz2⟩:=zah hblk;have Hn:Hid (∀ j u,[Value.int .i64 t,.int .u64 0][j]? = some u->w.cell? ((⟨b,0,none⟩:Addr).add j)=some u):=zaa (World.news_of_block hb);have Hr:=zaa hr;have hcn':(bl.length:Int)<=c:=by omega
 clear hb hr;rcases hac with rfl | ⟨g0,rfl⟩
 all_goals
  by_cases hcc:c=bl.length
  all_goals
   go_enter Tryz.func203,Tryz.ntmps203;go_wp2_with (at_builtin;refine wpList_append_lies _ rfl _ _ 231 rfl 0 244 i0 (.agg #[.int .i64 0,.int .u64 0]) 2 16 Tryz.underlying231 hi hz0 hz1 hz2 rfl (by decide) _ bl.length (zaF bl) rfl (uh Hr) ⟨b,0,none⟩ 1 1 [.int .i64 t,.int .u64 0] rfl rfl (uh Hn) (by simp[Value.oneCell']) (by decide) (by unfold maxLen;omega) (by omega) (Nat.zero_le _) w.heap.size rfl ?_);intro g cap W1 hown hgr hgv hgl;have Hgr:=zaa hgr;have Hown:=zaa hown;have Hgv:=zaa hgv;clear hown hgr hgv;go_wp2;go_ret;exact⟨g,cap,rfl,uh Hown,(uh Hgv).imp (λh=>h) (λh=>by omega),zc9 (zaJ _ w) (uh Hgr) (λk hk=>.inl hk)⟩
theorem zcH(bl:List Blk)(i:Nat)(b:Blk)(hi:i<=bl.length):(zel bl i b).length=bl.length+1:=by unfold zel;simp;omega
theorem zn1(t:Int)(b i:Nat)(sv:Value)(bl:List Blk)(hi:i<=bl.length)(hn40:bl.length<=1099511627776)(w:World)(hb:w.heap[b]? = some (.cells #[.int .i64 t,.int .u64 0] 244 (0,0)))
 (hne:sv.ownBlock≠some b) (hr:w.ownsRow 0 244 2 sv bl.length (zaF bl)) :
 Calls Tryz.prog 203 #[sv,.int .i64 i,.slice (some ⟨b,0,none⟩) 1 1] w λe w'=>∃ g c,e=.returned (.slice (some ⟨g,0,none⟩) (bl.length+1) c)/\w'.ownsRow 0 244 2 (.slice (some ⟨g,0,none⟩) (bl.length+1) c) (bl.length+1) (zaF (zel bl i (t,0))) /\
  (sv.ownBlock=some g\/w.heap.size<=g)/\Off (λk=>sv.ownBlock=some k) w w':=by
 by_cases hin:i=bl.length
 ·subst hin;have e:zaF (zel bl bl.length (t,0))=zaF bl ++ [.int .i64 t,.int .u64 0]:=by
   unfold zel;rw[List.take_length,List.drop_length,zf5];rfl
  rw[e];rcases hr.2 with ⟨hv,h0⟩ | ⟨g,cap,cur,hv,-,-,h1,h2,-⟩
  ·have hbl:bl.length=0:=h0;subst hv;have hr':=hr;rw[show (Value.slice none 0 0)=Value.slice none bl.length 0 by rw[hbl]] at hr' ⊢;exact zh5 t b none 0 bl hn40 (.inl rfl) (by omega) w hb hr'
  ·subst hv;exact zh5 t b (some ⟨g,0,none⟩) cap bl hn40 (.inr ⟨g,rfl⟩) h1 w hb hr
 ·have hlt:i<bl.length:=by omega
  rcases hr.2 with ⟨-,h0⟩ | ⟨g,cap,cur,hv,-,hg,h1,h2,h3,h4⟩
  ·omega
  ·subst hv;have hbg:b≠g:=λe=>hne (by rw[e];rfl);by_cases hroom:bl.length+1<=cap
   ·refine(zlA t b g cap i bl cur.toList hlt hroom h2 hbg w hb (by simpa using hg) (by simpa using h3) h4).mono λe w' ⟨e1,e2,cur',e3,e4,e5⟩=>?_;refine⟨g,cap,e1,⟨?_,.inr ⟨g,cap,cur'.toArray,rfl,Nat.zero_le _,e3,hroom,h2,by simpa using e4,by simpa using e5⟩⟩,.inl rfl,zmv e2 (λk hk=>.inl (by rw[hk];rfl))⟩;rw[zaN,zcH _ _ _ hi]
   ·have hc:cap=bl.length:=by omega
    refine(zlB t b g cap i bl hlt hn40 hc w hb (lt_of_some hg) (λj v hj=>?_)).mono λe w' ⟨G,e1,e2,e6,e7,cur',e3,e4,e5⟩=>?_
    ·have:=hr.cells (g:=g) rfl j v hj;have ea:(⟨g,0,none⟩:Addr).add j=⟨g,j,none⟩:=by unfold Addr.add;split <;> simp_all
     rw[ea] at this;exact this
    ·refine⟨w.heap.size,G,e1,⟨?_,.inr ⟨w.heap.size,G,cur'.toArray,rfl,Nat.zero_le _,e3,e6,e7,by simpa using e4,by simpa using e5⟩⟩,.inr (Nat.le_refl _),zbj e2⟩;rw[zaN,zcH _ _ _ hi]
theorem ziX(h:zcl bl)(t:Int):(∀ k,k<loc bl t->(bl.getD k (0,0)).1<t)/\∀ k,loc bl t<=k->k<bl.length->t<=(bl.getD k (0,0)).1:=by
 induction bl with
 | nil=>exact⟨λk hk=>by simp[loc] at hk,λk _ hk=>by simp at hk⟩
 | cons b l ih =>
   have h2:=List.pairwise_cons.1 h;obtain⟨i1,i2⟩:=ih h2.2;by_cases hb:b.1<t
   ·have e:loc (b::l) t=loc l t+1:=by unfold loc;rw[List.filter_cons,if_pos (by simpa using hb)];rfl
    rw[e];refine⟨λk hk=>?_,λk hk hl=>?_⟩
    ·cases k with
     | zero=>exact hb
     | succ k=>exact i1 k (by omega)
    ·cases k with
     | zero=>omega
     | succ k=>exact i2 k (by omega) (by simpa using hl)
   ·have e:loc (b::l) t=0:=by
     unfold loc;rw[List.filter_cons,if_neg (by simpa using hb),List.filter_eq_nil_iff.2]
     ·rfl
     ·intro x hx;have:=h2.1 x hx;simp only[decide_eq_true_eq];omega
    rw[e];refine⟨λk hk=>by omega,λk _ hl=>?_⟩
    cases k with
    | zero=>show t<=b.1;omega
    | succ k =>
      have hk':k<l.length:=by simpa using hl
      have:l.getD k (0,0) ∈ l:=by rw[za8 _ _ hk'];exact List.getElem_mem _
      have:=h2.1 _ this;show t<=(l.getD k (0,0)).1;omega
theorem loc_le(bl:List Blk)(t:Int):loc bl t<=bl.length:=by unfold loc;exact List.length_filter_le _ _
theorem zi4(h:zcl bl)(t:Int):zg7 bl t=true↔loc bl t<bl.length/\(bl.getD (loc bl t) (0,0)).1=t:=by
 have:=zqh (i:=loc bl t) h (ziX h t).1 (ziX h t).2;rw[this,decide_eq_true_eq]
theorem zqk(bl:List Blk)(i:Nat)(b:Blk)(hi:i<=bl.length):(zel bl i b).getD i (0,0)=b:=by
 unfold zel;rw[List.getD_eq_getElem?_getD,List.getElem?_append_right (by simp;omega),List.length_take,Nat.min_eq_left hi,Nat.sub_self];rfl
theorem ztr(bl:List Blk)(i:Nat)(b b':Blk)(hi:i<=bl.length):(zel bl i b).set i b'=zel bl i b':=by
 unfold zel;rw[List.set_append_right _ _ (by simp;omega),List.length_take,Nat.min_eq_left hi,Nat.sub_self];rfl
theorem zgL(h:zcl bl){t:Int}(hat:zg7 bl t=false)(y:Int):zcl (zel bl (loc bl t) (t,y)):=by
 obtain⟨h1,h2⟩:=ziX h t;unfold zel zcl;rw[List.pairwise_append];refine⟨h.sublist (List.take_sublist _ _),List.pairwise_cons.2 ⟨λx hx=>?_,h.sublist (List.drop_sublist _ _)⟩,λx hx z hz=>?_⟩
 ·obtain⟨k,hk,rfl⟩:=List.mem_iff_getElem.1 hx;rw[List.length_drop] at hk;have:=h2 (loc bl t+k) (by omega) (by omega);rw[za8 _ _ (by omega)] at this;rw[List.getElem_drop];have hne:bl[loc bl t+k].1≠t:=λe=>by
   have:zg7 bl t=true:=by
    simp only[zg7,List.any_eq_true,beq_iff_eq];exact⟨_,List.getElem_mem _,e⟩
   rw[this] at hat;cases hat
  show t<_;omega
 ·obtain⟨k,hk,rfl⟩:=List.mem_iff_getElem.1 hx;rw[List.length_take] at hk;have hk1:=h1 k (by omega);rw[za8 _ _ (by omega)] at hk1;rw[List.getElem_take];rcases List.mem_cons.1 hz with rfl | hz
  ·exact hk1
  ·obtain⟨j,hj,rfl⟩:=List.mem_iff_getElem.1 hz;rw[List.length_drop] at hj;have:=h2 (loc bl t+j) (by omega) (by omega);rw[za8 _ _ (by omega)] at this;rw[List.getElem_drop];omega
theorem zp6(B:Nat)(O:Nat->Prop)(bl:List Blk)(n t x k:Int)(hat:zg7 bl t=false)(hlen:bl.length+1<=1099511627776)(hn:0<=n/\n<=1099511627776)(hk:0<=k/\k<=64)
 (hones:∀ w,Calls Tryz.prog 204 #[.int .u64 (bits .andNot .u64 x 0)] w λe w'=>e=.returned (.int .i64 k)/\w'=w) (w:World) (h:SetIs w B O bl n) :
 Calls Tryz.prog 163 #[.pointer (some ⟨B,0,none⟩),.agg #[.int .i64 t,.int .u64 x]] w λe w'=>e=.returned (.int .i64 k)/\Off O w w' /\
  SetIs w' B (λj=>O j\/w.heap.size<=j/\j<w'.heap.size) (zel bl (loc bl t) (t,bits .or .u64 0 x)) (n+k):=by
 have hb0:Below w.heap.size w (w.alloc (.cells #[.int .i64 t,.int .u64 x] 244)):=(Below.refl _ _).alloc (Nat.le_refl _) _;have HF:=zaa (zi6 B O bl n t _ (zb9 h hb0));rw[hat] at HF;have hl:=loc_le bl t;have HU:=zaa (zgL h.up hat (bits .or .u64 0 x));have HX:=zaa (zks (zel bl (loc bl t) (t,0)) (loc bl t) (by rw[zcH _ _ _ hl];omega) (bits .or .u64 0 x));rw[zqk _ _ _ hl,ztr _ _ _ _ hl] at HX
 have Hcg:Hid ((zaF (zel bl (loc bl t) (t,0)))[loc bl t * 2+1]? = some (.int .u64 0)):=zaa (by
  have:=(zmT (zel bl (loc bl t) (t,0)) (loc bl t) (by rw[zcH _ _ _ hl];omega)).2;rw[zqk _ _ _ hl] at this
  exact this)
 have HL2:=zaa (zcH bl (loc bl t) (t,bits .or .u64 0 x) hl);have HI0:=zaa (λb sv W hb hne hr=>zn1 t b (loc bl t) sv bl hl (by omega) W hb hne hr);have HH:=zaa h;have HO:=zaa hones;have hlt:=h.lt B h.own;clear h hat hones hb0;generalize zel bl (loc bl t) (t,bits .or .u64 0 x)=bl2 at *;generalize zel bl (loc bl t) (t,0)=bl1 at *;generalize loc bl t=i at *
 have Hil:Hid (bl1.length=bl.length+1/\bl2.length=bl.length+1):=zaa ⟨by
  have:=congrArg List.length (uh HX);rw[zaN,List.length_set,zaN] at this;have h2:=uh HL2
  omega,uh HL2⟩
 go_enter Tryz.func163,Tryz.ntmps163;go_wp2_with (go_at_call 202;refine(uh HF).mono ?_;rintro e w1 ⟨rfl,hb⟩);have hbw:Below w.heap.size w w1:=((Below.refl _ _).alloc (Nat.le_refl _) _).trans (hb.mono (by simp));have ct:w1.cell? ⟨w.heap.size,0,none⟩=some (.int .i64 t):=(hb.cell (p:=⟨w.heap.size,0,none⟩) (by simp)).trans (World.cell?_alloc_mark w #[.int .i64 t,.int .u64 x] 244 (0,0) 0);have cx:w1.cell? ⟨w.heap.size,1,none⟩=some (.int .u64 x):=(hb.cell (p:=⟨w.heap.size,1,none⟩) (by simp)).trans (World.cell?_alloc_mark w #[.int .i64 t,.int .u64 x] 244 (0,0) 1);obtain⟨sv,hB1,hr1,hs1⟩:=(zb9 (uh HH) hbw).lies;obtain⟨va,vc,rfl⟩:=zaf hr1;have c0:=cell_block hB1 0 _ rfl;have f0:=frozen_block hB1 0;have hsz:w.heap.size<w1.heap.size:=by have:=hb.size;simp at this;omega
 have hOl:=(uh HH).lt;have n1:=zbd hB1 hr1 (by decide);have HI:=zaa (uh HI0 w1.heap.size (.slice va bl.length vc) (w1.alloc (.cells #[.int .i64 t,.int .u64 0] 244)).drew (MapKept.heap_alloc w1 _).1 (λe=>by have:=hOl _ (hs1 _ e);omega) (hr1.alloc _))
 have HP:Hid (∀ w2 g c,w2.ownsRow 0 244 2 (.slice (some ⟨g,0,none⟩) (bl.length+1) c) (bl.length+1) (zaF bl1)->((Value.slice va bl.length vc).ownBlock=some g\/(w1.alloc (.cells #[.int .i64 t,.int .u64 0] 244)).drew.heap.size<=g)->Off (λk=>(Value.slice va bl.length vc).ownBlock=some k) (w1.alloc (.cells #[.int .i64 t,.int .u64 0] 244)).drew w2 ->
  w2.heap[B]? = some (.cells #[.slice va bl.length vc,.int .i64 n] 233 (0,0))/\w2.cell? ⟨w.heap.size,1,none⟩=some (.int .u64 x)/\Off O w w2/\(O g\/w.heap.size<=g)/\g≠w.heap.size):=zaa (λw2 g c hown hgv ho=>by
  have hB1':(w1.alloc (.cells #[.int .i64 t,.int .u64 0] 244)).drew.heap[B]? = _:=(Below.heap_alloc w1 _ B (by omega)).trans hB1;have cx':(w1.alloc (.cells #[.int .i64 t,.int .u64 0] 244)).drew.cell? ⟨w.heap.size,1,none⟩=_:=(World.cell?_of_block (w:=w1) (Below.heap_alloc w1 (.cells #[.int .i64 t,.int .u64 0] 244) w.heap.size hsz)).trans cx;have hoW:Off O w (w1.alloc (.cells #[.int .i64 t,.int .u64 0] 244)).drew:=zmw (zdL (zbj hbw) _);refine⟨(ho.block B (lt_of_some hB1') n1).trans hB1',(zgp ho (p:=⟨w.heap.size,1,none⟩) (by show w.heap.size<(w1.alloc _).heap.size;rw[World.size_alloc];omega) (λe=>absurd (hOl _ (hs1 _ e)) (Nat.lt_irrefl _))).trans cx',zj0 hoW ho (λk hk=>.inl (hs1 k hk)),?_,?_⟩
  ·rcases hgv with h | h
   ·exact .inl (hs1 g h)
   ·exact .inr (by simp at h;omega)
  ·rcases hgv with h | h
   ·have:=hOl g (hs1 g h);omega
   ·simp at h;omega)
 have hBl:B<w1.heap.size:=by omega
 clear hB1 hb hbw hs1 hr1 n1 hOl HI0
 go_region_with (go_at_call 203;refine(uh HI).mono ?_;rintro e w2 ⟨g,c,rfl,hown,hgv,ho2⟩;obtain⟨hB2,cx2,hoff2,hgO,hgs⟩:=uh HP w2 g c hown hgv ho2;have d0:=cell_block hB2 0 _ rfl;have e0:=frozen_block hB2 0)
 all_goals
  have n2:=zbd hB2 hown (by decide);have hgB:g≠B:=λe=>n2 (by rw[e];rfl);have hB3:(w2.setCell ⟨B,0,none⟩ (.slice (some ⟨g,0,none⟩) (bl.length+1) c)).heap[B]? = some (.cells #[.slice (some ⟨g,0,none⟩) (bl.length+1) c,.int .i64 n] 233 (0,0)):=block_set (i:=0) hB2 _
  have hr3:(w2.setCell ⟨B,0,none⟩ (.slice (some ⟨g,0,none⟩) (bl.length+1) c)).ownsRow 0 244 2 (.slice (some ⟨g,0,none⟩) (bl.length+1) c) (bl.length+1) (zaF bl1) :=
   own_off (O:=λk=>k=B) hown (zaL (O:=λk=>k=B) (zaJ _ _) (p:=⟨B,0,none⟩) (.inl rfl) _) (λk hk e=>by simp only[Value.ownBlock,Option.some.injEq] at hk;omega)
  have cx3:(w2.setCell ⟨B,0,none⟩ (.slice (some ⟨g,0,none⟩) (bl.length+1) c)).cell? ⟨w.heap.size,1,none⟩=some (.int .u64 x) :=
   (World.cell?_of_block (w:=w2) (Below.heap_setCell _ _ _ w.heap.size (by show w.heap.size≠B;omega))).trans cx2
  have ho3:Off O w (w2.setCell ⟨B,0,none⟩ (.slice (some ⟨g,0,none⟩) (bl.length+1) c)):=zaL hoff2 (p:=⟨B,0,none⟩) (.inl (uh HH).own) _;clear hown hB2 cx2 hoff2 d0 e0 ho2 hgv HI HP c0 f0 ct cx n2;generalize w2.setCell ⟨B,0,none⟩ (.slice (some ⟨g,0,none⟩) (bl.length+1) c)=W3 at *;have c0:=cell_block hB3 0 _ rfl;have c1:=cell_block hB3 1 _ rfl;have f1:=frozen_block hB3 1;have cg:W3.cell? ⟨g,i * 2+1,none⟩=some (.int .u64 0):=by
   rw[own_cell hr3 rfl (i * 2+1) (by rw[zaN,(uh Hil).1];omega),List.getD_eq_getElem?_getD,uh Hcg];rfl
  have fg:W3.frozen? ⟨g,i * 2+1,none⟩=false:=hr3.frozenAt _;have HB3:=zaa hB3;have Hr3:=zaa hr3;have Ho3:=zaa ho3;have hi':(i:Int)<(bl.length:Int)+1:=by omega
  clear hB3 hr3 ho3;go_wp2;go_quiet ((go_at_call 204;exact Calls.quiet_of_same (uh HO _)));go_wp2
  go_region
  go_wp2;go_ret;have s1:=(ze8 (uh Hr3) (nq+1)).stored (i * 2+1) (.int .u64 (bits .or .u64 0 x));have hB4:((W3.drewN (nq+1)).setCell ⟨g,i * 2+1,none⟩ (.int .u64 (bits .or .u64 0 x))).heap[B]? = some (.cells #[.slice (some ⟨g,0,none⟩) (bl.length+1) c,.int .i64 n] 233 (0,0)):=(Below.heap_setCell (W3.drewN (nq+1)) ⟨g,i * 2+1,none⟩ _ B (λe=>hgB e.symm)).trans (uh HB3)
  have ho:Off O w (((W3.drewN (nq+1)).setCell ⟨g,i * 2+1,none⟩ (.int .u64 (bits .or .u64 0 x))).setCell ⟨B,1,none⟩ (.int .i64 (n+k))) :=
   zaL (zaL (za7 (uh Ho3) _) (p:=⟨g,i * 2+1,none⟩) hgO _) (p:=⟨B,1,none⟩) (.inl (uh HH).own) _
  have hr4:(((W3.drewN (nq+1)).setCell ⟨g,i * 2+1,none⟩ (.int .u64 (bits .or .u64 0 x))).setCell ⟨B,1,none⟩ (.int .i64 (n+k))).ownsRow 0 244 2 (.slice (some ⟨g,0,none⟩) (bl.length+1) c) (bl.length+1) (zaF bl2):=by
   rw[uh HX];exact own_off (O:=λk=>k=B) s1.1 (zaL (O:=λk=>k=B) (zaJ _ _) (p:=⟨B,1,none⟩) (.inl rfl) _) (λk hk e=>by simp only[Value.ownBlock,Option.some.injEq] at hk;omega)
  have hgl:=(hr4.lt g rfl).2;refine⟨rfl,ho,.inl (uh HH).own,?_,uh HU,by have:=(uh Hil).2;omega,.slice (some ⟨g,0,none⟩) (bl.length+1) c,block_set hB4 _,by rw[(uh Hil).2];exact hr4,?_⟩
  ·rintro j (h | h)
   ·have:=(uh HH).lt j h;have:=ho.size;omega
   ·exact h.2
  ·intro j hj;simp only[Value.ownBlock,Option.some.injEq] at hj;subst hj;rcases hgO with h | h
   ·exact .inl h
   ·exact .inr ⟨h,hgl⟩
theorem run_clear_over(w:World)(t e ty:TypeId)(z:Value)(ht:P.underlying t=some (.slice e))(hv:∀ w,(zeroValue e).run P w=.ok z w)(g o n c:Nat)(hn:0<n)(cur:List Value)(tt:TypeId)
 (hg:w.heap[g]? = some (.cells cur.toArray tt (0,0))) (hfit:o+(Builtin.zeroCells z.cells n).toList.length<=cur.length) (h1:∀ v ∈ (Builtin.zeroCells z.cells n).toList,v.oneCell'=true) :
 (Builtin.clear_ #[t] ty #[.slice (some ⟨g,o,none⟩) n c]).run P w=.ok (.tuple #[]) (w.setRow g (over cur o (Builtin.zeroCells z.cells n).toList).toArray):=by
 have hst:=run_storeCells_at P g o tt (Builtin.zeroCells z.cells n).toList 0 cur.toArray w hg (by simpa using hfit) h1;obtain⟨m,rfl⟩:∃ m,n=m+1:=⟨n - 1,by omega⟩;simp[Builtin.clear_,run_underlying ht,hv,hst,over]
theorem wpList_clear_known(w:World){ops:Array Oper}{rest:List Oper}{o:Oper}{a:Act}{Q:Exit->Act->World->Prop}(hgd:o.guard=none)(s:Operand)(t:TypeId)
 (ho:o.op=.call { callee:=.builtin .clear,args:=#[s],argTypes:=#[t] }) (u:Value) (hs:a.eval s=u) {v':Value}
 (hr:(Builtin.clear_ #[t] o.type #[u]).run P w=.ok v' w') (h:wpList P ops Q rest (a.put o.dst v') w'):wpList P ops Q (o::rest) a w :=
 wpList_plain hgd λ_ hK=>by
  unfold Oper.wp execOp;simp only[ho,resolve,invoke,builtin,Sem.run_bind,Sem.run_pure,Result.andThen_ok,List.map_toArray,List.map_cons,List.map_nil,hs,hr];exact hK _ _ h
theorem nodup_bound(N:Nat):∀ (l:List Int),l.Nodup->(∀ x ∈ l,0<=x/\x<N)->l.length<=N:=by
 induction N with
 | zero =>
   intro l _ h
   cases l with
   | nil=>simp
   | cons a l=>have:=h a (by simp);omega
 | succ N ih =>
   intro l hn h
   have h1:=ih (l.erase (N:Int)) (hn.erase _) (λx hx=>by
    have h2:=h x (List.mem_of_mem_erase hx);have h3:x≠N:=λe=>by subst e;exact hn.not_mem_erase hx
    omega)
   have h2:l.length<=(l.erase (N:Int)).length+1:=by
    rw[List.length_erase];split <;> omega
   omega
theorem zcz(n:Int)(h0:0<=n)(h1:n<2 ^ 64):IntKind.u64.wrap n=n:=by rw[IntKind.wrap_u64];omega
theorem zdZ(X Y:Nat)(hX:X<2 ^ 64)(hY:Y<2 ^ 64):bits .and .u64 X Y=((X &&& Y:Nat):Int):=(bits_nat .u64 64 (by decide) zcz X Y hX hY).1
theorem zjX(X Y:Nat)(hX:X<2 ^ 64)(hY:Y<2 ^ 64):bits .or .u64 X Y=((X ||| Y:Nat):Int):=(bits_nat .u64 64 (by decide) zcz X Y hX hY).2
def zuz(X Y:Nat):Nat:=(BitVec.ofNat 64 X &&& ~~~ BitVec.ofNat 64 Y).toNat
theorem zpK(X Y:Nat):zuz X Y<2 ^ 64:=(BitVec.ofNat 64 X &&& ~~~ BitVec.ofNat 64 Y).isLt
theorem ziM(X Y i:Nat)(hX:X<2 ^ 64):(zuz X Y).testBit i=(X.testBit i && !Y.testBit i):=by
 unfold zuz;rw[BitVec.testBit_toNat];by_cases hi:i<64
 ·rw[BitVec.getLsbD_and,BitVec.getLsbD_not,BitVec.getLsbD_ofNat,BitVec.getLsbD_ofNat];simp[hi]
 ·have:X.testBit i=false:=Nat.testBit_lt_two_pow (Nat.lt_of_lt_of_le hX (Nat.pow_le_pow_right (by decide) (by omega)));rw[this];simp only[Bool.false_and];exact BitVec.getLsbD_of_ge _ _ (by omega)
theorem zpJ(X Y:Nat):bits .andNot .u64 X Y=(zuz X Y:Int):=by
 show IntKind.u64.wrap ((BitVec.ofInt 64 (X:Int) &&& ~~~ BitVec.ofInt 64 (Y:Int)).toNat:Int)=_;rw[BitVec.ofInt_natCast,BitVec.ofInt_natCast];have:=zpK X Y;exact zcz _ (Int.natCast_nonneg _) (by exact_mod_cast this)
theorem zxj(Y a:Nat):Y &&& 2 ^ a=if Y.testBit a then 2 ^ a else 0:=by
 apply Nat.eq_of_testBit_eq;intro i;rw[Nat.testBit_and,Nat.testBit_two_pow];by_cases e:a=i
 ·subst e
  cases h:Y.testBit a
  ·simp
  ·simp
 ·cases h:Y.testBit a
  ·simp[e]
  ·simp[e]
theorem zpr{a:Nat}(h:a<64):2 ^ a<2 ^ 64:=Nat.pow_lt_pow_right (by decide) h
theorem zs2(Y a:Nat)(ha:a<64):zuz (2 ^ a) Y=if Y.testBit a then 0 else 2 ^ a:=by
 apply Nat.eq_of_testBit_eq;intro i;rw[ziM _ _ _ (zpr ha),Nat.testBit_two_pow];by_cases e:a=i
 ·subst e
  cases h:Y.testBit a
  ·simp
  ·simp
 ·cases h:Y.testBit a
  ·simp[e]
  ·simp[e]
def zhH(bl:List Blk):Prop:=∀ b ∈ bl,(0<=b.2/\b.2<18446744073709551616)/\0<=b.1/\b.1<16384
theorem zu6(h:zcl bl){j:Nat}(hi:i<bl.length)(hj:j<bl.length)(he:bl[i].1=bl[j].1):i=j:=by
 have pw:=List.pairwise_iff_getElem.1 h;rcases Nat.lt_trichotomy i j with h | h | h
 ·have:=pw i j hi hj h;omega
 ·exact h
 ·have:=pw j i hj hi h;omega
theorem zbt(h:zcl bl)(hm:(s,y) ∈ bl):zbA bl s=y:=by
 obtain⟨k,hk,he⟩:=List.mem_iff_getElem.1 hm;have hat:zg7 bl s=true:=by
  simp only[zg7,List.any_eq_true,beq_iff_eq];exact⟨(s,y),hm,rfl⟩
 obtain⟨h1,h2⟩:=(zi4 h s).1 hat;rw[za8 _ _ h1] at h2;have e:loc bl s=k:=zu6 h h1 hk (by rw[h2,he]);unfold zbA;rw[hat,if_pos rfl,za8 _ _ h1];have e2:bl[loc bl s]=bl[k]:=by congr 1
 rw[e2,he]
theorem zft(hm:∀ y,(s,y) ∉ bl):zbA bl s=0:=by
 unfold zbA;rw[if_neg];intro hat;simp only[zg7,List.any_eq_true,beq_iff_eq] at hat;obtain⟨⟨a,b⟩,hb,he⟩:=hat;exact hm b (by rw[<- he];exact hb)
theorem zes(ha:zcl a)(hb:zcl b)(h:∀ y,(s,y) ∈ a↔(s,y) ∈ b):zbA a s=zbA b s:=by
 by_cases hm:∃ y,(s,y) ∈ a
 ·obtain⟨y,hy⟩:=hm;rw[zbt ha hy,zbt hb ((h y).1 hy)]
 ·rw[zft (λy hy=>hm ⟨y,hy⟩),zft (λy hy=>hm ⟨y,(h y).2 hy⟩)]
theorem zre(hf:zhH bl)(s:Int):0<=zbA bl s/\zbA bl s<18446744073709551616:=by
 unfold zbA
 split
 ·rename_i hat;have hl:=zp2 hat;have:bl.getD (loc bl s) (0,0) ∈ bl:=by rw[za8 _ _ hl];exact List.getElem_mem _
  exact(hf _ this).1
 ·omega
theorem zr5(bl:List Blk)(i:Nat)(hi:i<bl.length):bl=bl.take i ++ bl.getD i (0,0)::bl.drop (i+1):=by
 rw[za8 _ _ hi,<- List.drop_eq_getElem_cons hi,List.take_append_drop]
theorem mem_set(hi:i<bl.length)(v:Blk)(hs:s≠v.1)(hb:(bl.getD i (0,0)).1=v.1):(s,y) ∈ bl.set i v↔(s,y) ∈ bl:=by
 have e1:bl.set i v=bl.take i ++ v::bl.drop (i+1):=by rw[List.set_eq_take_append_cons_drop,if_pos hi]
 have hne:(s,y)≠v:=λe=>hs (by rw[<- e]);have hne2:(s,y)≠bl.getD i (0,0):=λe=>hs (by rw[<- hb,<- e]);rw[e1]
 conv=>rhs;rw[zr5 bl i hi]
 simp only[List.mem_append,List.mem_cons,hne,hne2,false_or]
theorem zpU(bl:List Blk)(i:Nat)(v:Blk)(hs:s≠v.1):(s,y) ∈ zel bl i v↔(s,y) ∈ bl:=by
 have hne:(s,y)≠v:=λe=>hs (by rw[<- e]);unfold zel
 conv=>rhs;rw[<- List.take_append_drop i bl]
 simp only[List.mem_append,List.mem_cons,hne,false_or]
theorem zqz(hf:zhH bl)(i:Nat)(v:Blk)(hv:(0<=v.2/\v.2<18446744073709551616)/\0<=v.1/\v.1<16384):zhH (bl.set i v):=λb hb=>by
 rcases List.mem_or_eq_of_mem_set hb with h | h
 ·exact hf b h
 ·rw[h];exact hv
theorem zqB(hf:zhH bl)(i:Nat)(v:Blk)(hv:(0<=v.2/\v.2<18446744073709551616)/\0<=v.1/\v.1<16384):zhH (zel bl i v):=λb hb=>by
 unfold zel at hb;rcases List.mem_append.1 hb with h | h
 ·exact hf b (List.mem_of_mem_take h)
 ·rcases List.mem_cons.1 h with h | h
  ·rw[h];exact hv
  ·exact hf b (List.mem_of_mem_drop h)
theorem zdd(h:zcl bl)(hf:zhH bl):bl.length<=16384:=by
 have:=nodup_bound 16384 (bl.map (·.1)) (by
  rw[List.nodup_iff_pairwise_ne,List.pairwise_map]
  exact h.imp (λh=>by omega)) (λx hx=>by
  obtain⟨b,hb,rfl⟩:=List.mem_map.1 hx;have:=(hf b hb).2
  omega)
 simpa using this
theorem zcX(hf:zhH bl)(m:Int):hasB bl m=(zbA bl (m / 64)).toNat.testBit (m % 64).toNat:=by
 obtain⟨h0,h1⟩:=zre hf (m / 64);have hm1:=Int.emod_nonneg m (show (64:Int)≠0 by decide);have hm2:=Int.emod_lt_of_pos m (show (0:Int)<64 by decide);unfold hasB zjm;obtain⟨X,hX⟩:=Int.eq_ofNat_of_zero_le h0;rw[hX,zdZ X _ (by rw[hX] at h1;omega) (zpr (by omega)),zxj,Int.toNat_natCast]
 cases h:X.testBit (m % 64).toNat
 ·rfl
 ·have:0<2 ^ (m % 64).toNat:=Nat.pos_of_ne_zero (by simp);simp only[if_true,bne_iff_ne,ne_eq];omega
theorem num_eq{m:Int}:(m / 64=n / 64/\(m % 64).toNat=(n % 64).toNat)↔m=n:=by
 have hm1:=Int.emod_nonneg m (show (64:Int)≠0 by decide);have hn1:=Int.emod_nonneg n (show (64:Int)≠0 by decide);constructor
 ·rintro⟨h1,h2⟩;omega
 ·rintro rfl;exact⟨rfl,rfl⟩
theorem zqn(ha:zhH a)(hb:zhH b)(n:Int)(v:Bool)(h1:∀ s,s≠n / 64->zbA b s=zbA a s)(h2:∀ i,(zbA b (n / 64)).toNat.testBit i=if i=(n % 64).toNat then v else(zbA a (n / 64)).toNat.testBit i)(m:Int) :
 hasB b m=if m=n then v else hasB a m:=by
 rw[zcX hb,zcX ha];by_cases hd:m / 64=n / 64
 ·rw[hd,h2];by_cases hi:(m % 64).toNat=(n % 64).toNat
  ·rw[if_pos hi,if_pos (num_eq.1 ⟨hd,hi⟩)]
  ·rw[if_neg hi,if_neg (λe=>hi (by rw[e]))]
 ·rw[h1 _ hd,if_neg (λe=>hd (by rw[e]))]
def zrG(bl:List Blk):Prop:=∀ b ∈ bl,b.2≠0
theorem zmO(hf:zrG bl)(i:Nat)(v:Blk)(hv:v.2≠0):zrG (bl.set i v):=λb hb=>by
 rcases List.mem_or_eq_of_mem_set hb with h | h
 ·exact hf b h
 ·rw[h];exact hv
theorem zmP(hf:zrG bl)(i:Nat)(v:Blk)(hv:v.2≠0):zrG (zel bl i v):=λb hb=>by
 unfold zel at hb;rcases List.mem_append.1 hb with h | h
 ·exact hf b (List.mem_of_mem_take h)
 ·rcases List.mem_cons.1 h with h | h
  ·rw[h];exact hv
  ·exact hf b (List.mem_of_mem_drop h)
theorem zpz{Y:Nat}(h:X≠0):((Y ||| X:Nat):Int)≠0:=by
 have:X<=Y ||| X:=Nat.right_le_or
 omega
theorem zml(a:Nat):2 ^ a≠0:=Nat.ne_of_gt (Nat.two_pow_pos a)
structure SetOk (w:World) (B:Nat) (O:Nat->Prop) (bl:List Blk) (sz:Int):Prop where
 is:SetIs w B O bl sz
 fit:zhH bl
 full:zrG bl
theorem zmu(h:SetOk w B O bl n)(hb:Below w.heap.size w w'):SetOk w' B O bl n:=⟨zb9 h.is hb,h.fit,h.full⟩
theorem ok_off{O':Nat->Prop}(h:SetOk w B O bl n)(ho:Off O' w w')(hd:∀ k,O k->¬ O' k):SetOk w' B O bl n:=⟨zo8 h.is ho hd,h.fit,h.full⟩
theorem ziQ(h:X<2 ^ 64):0<=(X:Int)/\(X:Int)<18446744073709551616:=by omega
def ziN(h:Bool):Int:=if h then 0 else 1
theorem zmt(Y a:Nat)(ha:a<64):zlg (bits .andNot .u64 ((2 ^ a:Nat):Int) (Y:Int))=ziN (Y.testBit a):=by
 rw[zpJ,zs2 _ _ ha]
 cases h:Y.testBit a
 ·exact zsD ⟨a,ha⟩
 ·exact zpB
theorem zpN(h:Bool):0<=ziN h/\ziN h<=64:=by unfold ziN;split <;> omega
theorem zpE(hn:0<=n/\n<1048576):(0<=n / 64/\n / 64<16384)/\(n % 64).toNat<64:=by
 have h1:=Int.emod_nonneg n (show (64:Int)≠0 by decide);have h2:=Int.emod_lt_of_pos n (show (0:Int)<64 by decide);omega
theorem zv7(B:Nat)(O:Nat->Prop)(bl:List Blk)(sz n:Int)(hn:0<=n/\n<1048576)(hsz:0<=sz/\sz<=1099511627776)(w:World)(h:SetOk w B O bl sz) :
 Calls Tryz.prog 163 #[.pointer (some ⟨B,0,none⟩),.agg #[.int .i64 (n / 64),.int .u64 (zjm n)]] w λe w'=>e=.returned (.int .i64 (ziN (hasB bl n)))/\Off O w w' /\
  ∃ bl' O',SetOk w' B O' bl' (sz+ziN (hasB bl n))/\(∀ k,O' k->O k\/w.heap.size<=k)/\∀ m,hasB bl' m=if m=n then true else hasB bl m:=by
 obtain⟨ht,ha⟩:=zpE hn;have hup:=h.is.up;have hfit:=h.fit;have hhas:=zcX hfit n;obtain⟨a,haa⟩:∃ a,a=(n % 64).toNat:=⟨_,rfl⟩;have hbv:zjm n=((2 ^ a:Nat):Int):=by rw[haa];rfl
 rw[<- haa] at ha hhas;have hp:=zpr ha
 cases hat:zg7 bl (n / 64)
 ·have hb0:zbA bl (n / 64)=0:=by unfold zbA;rw[hat];rfl
  have hh:hasB bl n=false:=by rw[hhas,hb0];simp
  have hlen:=zdd hup hfit;have ho:bits .or .u64 0 (zjm n)=zjm n:=by
   rw[hbv];have:=zjX 0 (2 ^ a) (by decide) hp;rw[Nat.zero_or] at this;exact this
  have key:=zp6 B O bl sz (n / 64) (zjm n) (ziN (hasB bl n)) hat (by omega) hsz (zpN _) (λw=>by
   have:=ziI (bits .andNot .u64 (zjm n) 0) w;rw[hbv] at this;have e:zlg (bits .andNot .u64 ((2 ^ a:Nat):Int) ((0:Nat):Int))=_:=zmt 0 a ha;rw[Nat.zero_testBit] at e;rw[hh,hbv];rw[show ((0:Nat):Int)=0 from rfl] at e;rw[e] at this
   exact this) w h.is
  rw[ho] at key;have hri:=zgL hup hat (zjm n);have hfi:=zqB hfit (loc bl (n / 64)) (n / 64,zjm n) ⟨by rw[hbv];exact ziQ hp,ht⟩;refine key.mono λe w' ⟨e1,e2,e3⟩=>⟨e1,e2,_,_,⟨e3,hfi,zmP h.full _ _ (show zjm n≠0 by rw[hbv];have:=zml a;omega)⟩,λk hk=>hk.imp id (λh=>h.1),λm=>?_⟩;refine zqn hfit hfi n true (λs hs=>zes hri hup (λy=>zpU _ _ _ hs)) (λi=>?_) m;rw[zbt hri (show (n / 64,zjm n) ∈ _ by unfold zel;simp),hb0,hbv,Int.toNat_natCast,Nat.testBit_two_pow,<- haa];simp only[Int.toNat_zero,Nat.zero_testBit];by_cases e:i=a
  ·simp[e]
  ·have e':¬ a=i:=λh=>e h.symm;simp[e,e']
 ·obtain⟨hl,he⟩:=(zi4 hup (n / 64)).1 hat;have hmem:bl.getD (loc bl (n / 64)) (0,0) ∈ bl:=by rw[za8 _ _ hl];exact List.getElem_mem _
  have hb0:zbA bl (n / 64)=(bl.getD (loc bl (n / 64)) (0,0)).2:=by unfold zbA;rw[hat];rfl
  obtain⟨Y,hY⟩:=Int.eq_ofNat_of_zero_le (hfit _ hmem).1.1;have hY2:Y<2 ^ 64:=by have:=(hfit _ hmem).1.2;rw[hY] at this;omega
  rw[hb0,hY,Int.toNat_natCast] at hhas;have ho:bits .or .u64 (bl.getD (loc bl (n / 64)) (0,0)).2 (zjm n)=((Y ||| 2 ^ a:Nat):Int):=by rw[hY,hbv];exact zjX Y (2 ^ a) hY2 hp
  have key:=zkc B O bl sz (n / 64) (zjm n) (ziN (hasB bl n)) hat hsz (zpN _) (λw=>by
   have:=ziI (bits .andNot .u64 (zjm n) (bl.getD (loc bl (n / 64)) (0,0)).2) w;have e:=zmt Y a ha;rw[<- hhas,<- hbv] at e;rw[hY] at this ⊢;rw[e] at this
   exact this) w h.is
  rw[ho,he] at key;have hor:Y ||| 2 ^ a<2 ^ 64:=Nat.or_lt_two_pow hY2 hp
  have hfi:=zqz hfit (loc bl (n / 64)) (n / 64,((Y ||| 2 ^ a:Nat):Int)) ⟨ziQ hor,ht⟩;have hri:zcl (bl.set (loc bl (n / 64)) (n / 64,((Y ||| 2 ^ a:Nat):Int))):=by have:=zgK hup (loc bl (n / 64)) ((Y ||| 2 ^ a:Nat):Int);rw[he] at this;exact this
  refine key.mono λe w' ⟨e1,e2,e3⟩=>⟨e1,e2,_,_,⟨e3,hfi,zmO h.full _ _ (zpz (zml a))⟩,λk hk=>.inl hk,λm=>?_⟩;refine zqn hfit hfi n true (λs hs=>zes hri hup (λy=>mem_set hl _ hs he)) (λi=>?_) m;rw[zbt hri (show (n / 64,((Y ||| 2 ^ a:Nat):Int)) ∈ _ from List.mem_set hl _),hb0,hY,Int.toNat_natCast,Nat.testBit_or,Nat.testBit_two_pow,<- haa];by_cases e:i=a
  ·simp[e]
  ·have e':¬ a=i:=λh=>e h.symm;simp[e,e']
def addS(h:Int->Bool)(l:List Int):(Int->Bool) × Int:=l.foldl (λp n=>(λm=>if m=n then true else p.1 m,p.2+ziN (p.1 n))) (h,0)
theorem zpO(h:Bool):0<=ziN h/\ziN h<=1:=by unfold ziN;split <;> omega
theorem zhq(h:Int->Bool)(l:List Int)(k:Nat)(hk:k<l.length):addS h (l.take (k+1))=(λm=>if m=l.getD k 0 then true else(addS h (l.take k)).1 m,(addS h (l.take k)).2+ziN ((addS h (l.take k)).1 (l.getD k 0))):=by
 unfold addS;rw[List.take_add_one,List.getElem?_eq_getElem hk,List.foldl_append,List.getD_eq_getElem?_getD,List.getElem?_eq_getElem hk];rfl
theorem zxm(h:Int->Bool)(l:List Int)(k:Nat)(hk:k<=l.length):0<=(addS h (l.take k)).2/\(addS h (l.take k)).2<=k:=by
 induction k with
 | zero=>simp[addS]
 | succ k ih =>
   rw[zhq h l k (by omega)];have:=ih (by omega);have:=zpO ((addS h (l.take k)).1 (l.getD k 0));simp only;omega
theorem add_any(B:Nat)(O:Nat->Prop)(bl:List Blk)(sz:Int)(a:Option Addr)(c:Nat)(l:List Int)(hnum:numsB l=true)(hsz:0<=sz/\sz+l.length<=1099511627776)(w:World)(h:SetOk w B O bl sz)(hrow:NRow w a l)(hapart:∀ x,a=some x->¬ O x.block) :
 Calls Tryz.prog 150 #[.pointer (some ⟨B,0,none⟩),.slice a l.length c] w λe w'=>e=.returned (.tuple #[.int .i64 (addS (hasB bl) l).2,.int .i64 0])/\Off O w w' /\
  ∃ bl' O',SetOk w' B O' bl' (sz+(addS (hasB bl) l).2)/\(∀ k,O' k->O k\/w.heap.size<=k)/\∀ m,hasB bl' m=(addS (hasB bl) l).1 m:=by
 have HA:=zaa (zcZ a c l (by omega) w hrow);rw[hnum] at HA;have hnums:∀ k,k<l.length->0<=l.getD k 0/\l.getD k 0<1048576:=λk hk=>by
  have:=List.all_eq_true.1 hnum (l.getD k 0) (by rw[List.getD_eq_getElem?_getD,List.getElem?_eq_getElem hk];exact List.getElem_mem _);simpa using this
 have Hnums:=zaa hnums;have hOl:=h.is.lt;have HOl:=zaa hOl;have Hrow:=zaa hrow;have Hap:=zaa hapart
 have H0:Hid (∃ bl' O',SetOk w B O' bl' (sz+(addS (hasB bl) (l.take 0)).2)/\(∀ k,O' k->O k\/w.heap.size<=k)/\∀ m,hasB bl' m=(addS (hasB bl) (l.take 0)).1 m):=zaa ⟨bl,O,by
  show SetOk w B O bl (sz+0)
  rw[Int.add_zero];exact h,λk hk=>.inl hk,λm=>rfl⟩
 clear h hnum hnums hOl hrow hapart;generalize hasB bl=hs at *;go_enter Tryz.func150,Tryz.ntmps150;go_wp2_with (go_at_call 194;refine(uh HA).mono ?_;rintro e w' ⟨rfl,hw⟩;obtain rfl:=hw.symm)
 go_loopw [16,6] (λx s wr=>∃ k:Nat,x=.int .i64 k/\k<=l.length/\s=.int .i64 (addS hs (l.take k)).2/\Off O w wr/\∃ bl' O',SetOk wr B O' bl' (sz+(addS hs (l.take k)).2)/\(∀ k,O' k->O k\/w.heap.size<=k)/\∀ m,hasB bl' m=(addS hs (l.take k)).1 m) (λx _ _=>l.length - (intOf x).toNat)
 case atStart=>exact⟨0,rfl,Nat.zero_le _,rfl,zaJ _ _,uh H0⟩
 case round =>
  obtain⟨k,rfl,hk,rfl,hoff,bl1,O1,hok,hO1,hhas⟩:=hrel;by_cases hlt:k<l.length
  ·have hlt':(k:Int)<l.length:=by omega
   obtain⟨g,off,rfl,hgl,hcell⟩:∃ g off,a=some ⟨g,off,none⟩/\g<w.heap.size/\∀ j,j<l.length->w.cell? ⟨g,off+j,none⟩=some (.int .i64 (l.getD j 0)):=by
    rcases uh Hrow with h | h
    ·subst h;simp at hlt
    ·exact h
   have hgO:¬ O g:=uh Hap _ rfl;have ck:wr.cell? ⟨g,off+k,none⟩=some (.int .i64 (l.getD k 0)):=(zgp hoff (p:=⟨g,off+k,none⟩) hgl hgO).trans (hcell k hlt);have hle:=zxm hs l k hk;have HS:=zaa (zhq hs l k hlt);have HB:=zaa (zlS (l.getD k 0) wr);have HL:=zaa (λw' (hb:Below wr.heap.size wr w')=>zv7 B O1 bl1 (sz+(addS hs (l.take k)).2) (l.getD k 0) (uh Hnums k hlt) (by omega) w' (zmu hok hb));rw[hhas] at HL;have Hhas:=zaa hhas;have Hoff:=zaa hoff;have HO1:=zaa hO1;have hwl:=hoff.size;have hk01:=zpO ((addS hs (l.take k)).1 (l.getD k 0));have hws:IntKind.i64.wrap ((addS hs (l.take k)).2+ziN ((addS hs (l.take k)).1 (l.getD k 0)))=(addS hs (l.take k)).2+ziN ((addS hs (l.take k)).1 (l.getD k 0)):=by rw[IntKind.wrap_i64];omega
   clear hok hhas hoff hcell HA H0 hle hk01;generalize ziN ((addS hs (l.take k)).1 (l.getD k 0))=kk at *;generalize hcs:(addS hs (l.take k)).2=cs at *;have Hcs:=zaa hcs;clear hcs;generalize l.getD k 0=n at *;go_wp2_with (first | (go_at_call 195;refine(uh HB).mono ?_;rintro e w1 ⟨rfl,hb⟩) | (go_at_call 163;refine(uh HL w1 hb).mono ?_;rintro e w2 ⟨rfl,ho,bl2,O2,hok2,hO2,hhas2⟩;have Ho:=zaa ho;have Hok2:=zaa hok2;have HO2:=zaa hO2;have Hhas2:=zaa hhas2;clear ho hok2 hO2 hhas2));go_roundw
   case rel =>
    have hsz1:=hb.size;refine⟨k+1,by go_num,by omega,?_,zj0 (uh Hoff) (zgR (zbj hb) (uh Ho)) (uh HO1),bl2,O2,?_,λj hj=>?_,λm=>?_⟩
    ·rw[uh HS]
    ·rw[uh HS];have:=uh Hok2;rw[Int.add_assoc] at this;exact this
    ·rcases uh HO2 j hj with h | h
     ·exact uh HO1 j h
     ·exact .inr (by omega)
    ·rw[uh Hhas2,uh HS,uh Hhas]
   case measure=>simp[intOf];omega
  ·obtain rfl:k=l.length:=by omega
   have hlt':¬ ((l.length:Int)<l.length):=by omega
   rw[List.take_length] at *;have Hok:=zaa hok;have HO1:=zaa hO1;have Hhas:=zaa hhas;have Hoff:=zaa hoff;clear hok hO1 hhas hoff HA H0;go_wp2
   go_ret2
   exact⟨rfl,uh Hoff,bl1,O1,uh Hok,uh HO1,uh Hhas⟩
theorem hint:(Tryz.prog.info? 3).map (λi=>(i.zero,i.size,i.bytes))=some (some (.int .i64 0),1,8):=by kernel_rfl
def cnt(N:Nat)(h:Int->Bool):Nat:=((List.range N).filter λi:Nat=>h i).length
theorem cnt_succ(N:Nat)(h:Int->Bool):cnt (N+1) h=cnt N h+if h N then 1 else 0:=by
 unfold cnt;rw[List.range_succ,List.filter_append,List.length_append]
 congr 1
 rw[List.filter_cons,List.filter_nil]
 split <;> rfl
theorem cnt_le(N:Nat)(h:Int->Bool):cnt N h<=N:=by
 have:=List.length_filter_le (λi:Nat=>h i) (List.range N);simpa [cnt] using this
theorem cnt_zero(N:Nat)(h:Int->Bool)(h0:∀ m,h m=false):cnt N h=0:=by
 unfold cnt;rw[List.filter_eq_nil_iff.2]
 ·rfl
 ·intro a _;simp[h0]
theorem zwH(h:Int->Bool)(n:Int)(v:Bool):∀ N:Nat,(N:Int)<=n->cnt N (λm=>if m=n then v else h m)=cnt N h:=by
 intro N
 induction N with
 | zero=>intro _;rfl
 | succ N ih =>
   intro hN;rw[cnt_succ,cnt_succ,ih (by omega),if_neg (show ¬ (N:Int)=n by omega)]
theorem zwG(h:Int->Bool)(n:Int)(hn:0<=n):∀ N:Nat,n<N->(cnt N (λm=>if m=n then true else h m):Int)=cnt N h+ziN (h n):=by
 intro N
 induction N with
 | zero=>intro hN;omega
 | succ N ih =>
   intro hN;rw[cnt_succ,cnt_succ];by_cases e:(N:Int)=n
   ·rw[zwH h n true N (by omega),if_pos e,e];unfold ziN
    cases h n <;> simp
   ·have:=ih (by omega);rw[if_neg e];omega
theorem addS_cnt(N:Nat)(h:Int->Bool)(l:List Int)(hv:∀ k,k<l.length->0<=l.getD k 0/\l.getD k 0<N):∀ k,k<=l.length->(addS h (l.take k)).2=(cnt N (addS h (l.take k)).1:Int) - cnt N h:=by
 intro k
 induction k with
 | zero=>intro _;show (0:Int)=_;simp[addS]
 | succ k ih =>
   intro hk;rw[zhq h l k (by omega)];have:=ih (by omega);have h2:=hv k (by omega);show (addS h (l.take k)).2+_=_;rw[zwG _ _ h2.1 N h2.2];omega
theorem add_zero(B:Nat)(w:World):Calls Tryz.prog 150 #[.pointer (some ⟨B,0,none⟩),.slice none 0 0] w λe w'=>e=.returned (.tuple #[.int .i64 0,.int .i64 0])/\w'=w:=by
 have HA:=zaa (zcZ none 0 [] (by decide) w (.inl rfl));rw[show numsB []=true from rfl,show ([]:List Int).length=0 from rfl] at HA;go_enter Tryz.func150,Tryz.ntmps150;go_wp2_with (go_at_call 194;refine(uh HA).mono ?_;rintro e w' ⟨rfl,hw⟩;obtain rfl:=hw.symm)
 go_loop [16,6] (λx y=>x=.int .i64 0/\y=.int .i64 0) (λx _=>0)
 case atStart=>exact⟨rfl,rfl⟩
 case round =>
  obtain⟨rfl,rfl⟩:=hrel;go_wp2
  go_ret2
  exact⟨rfl,rfl⟩
theorem new_zero(w:World):Calls Tryz.prog 113 #[.slice none 0 0] w λe w'=>e=.returned (.tuple #[.pointer (some ⟨w.heap.size,0,none⟩),.int .i64 0])/\w'=w.alloc (.cells #[.slice none 0 0,.int .i64 0] 233):=by
 have HA:=zaa (add_zero w.heap.size (w.alloc (.cells #[.slice none 0 0,.int .i64 0] 233)));go_enter Tryz.func113,Tryz.ntmps113;go_wp2_with (go_at_call 150;refine(uh HA).mono ?_;rintro e w1 ⟨rfl,hw⟩;obtain rfl:=hw.symm)
 go_ret2
 exact⟨rfl,rfl⟩
theorem zqA:zhH []:=λb hb=>by simp at hb
theorem has_nil(m:Int):hasB [] m=false:=by rw[zcX zqA];simp[zbA,zg7]
theorem set_zero(h:w.heap[B]? = some (.cells #[.slice none 0 0,.int .i64 0] 233 (0,0))):SetOk w B (λk=>k=B) [] 0 :=
 ⟨⟨rfl,λk hk=>by rw[hk];exact lt_of_some h,List.Pairwise.nil,by simp,.slice none 0 0,h,⟨rfl,.inl ⟨rfl,rfl⟩⟩,λk h=>by simp[Value.ownBlock] at h⟩,zqA,λb hb=>by simp at hb⟩
theorem low_of:∀ (X:Nat),X≠0->∃ k q,X=2 ^ k * (2 * q+1):=by
 intro X
 induction X using Nat.strongRecOn with
 | ind X ih =>
   intro h;by_cases ho:X % 2=1
   ·exact⟨0,X / 2,by omega⟩
   ·obtain⟨k,q,e⟩:=ih (X / 2) (by omega) (by omega);refine⟨k+1,q,?_⟩;rw[Nat.pow_succ,Nat.mul_assoc,Nat.mul_comm 2,<- Nat.mul_assoc,<- e];omega
theorem zfe(k q i:Nat):(2 ^ k * (2 * q+1)).testBit i=if i<k then false else if i=k then true else q.testBit (i - k - 1):=by
 have:=Nat.testBit_two_pow_mul_add (2 * q+1) (b:=0) (i:=k) (Nat.two_pow_pos k) i;rw[Nat.add_zero] at this;rw[this];by_cases h1:i<k
 ·rw[if_pos h1,if_pos h1];simp
 ·rw[if_neg h1,if_neg h1];by_cases h2:i=k
  ·subst h2;rw[if_pos rfl,Nat.sub_self];simp[Nat.testBit_zero]
  ·rw[if_neg h2];obtain⟨j,rfl⟩:∃ j,i=k+j+1:=⟨i - k - 1,by omega⟩;rw[show k+j+1 - k=j+1 by omega,Nat.testBit_succ,show (2 * q+1) / 2=q by omega,Nat.add_sub_cancel]
theorem zjS(k q i:Nat):(2 ^ k * (2 * q+1) - 1).testBit i=if i<k then true else if i=k then false else q.testBit (i - k - 1):=by
 have hp:=Nat.two_pow_pos k;have e:2 ^ k * (2 * q+1) - 1=2 ^ k * (2 * q)+(2 ^ k - 1):=by rw[Nat.mul_add,Nat.mul_one];omega
 have:=Nat.testBit_two_pow_mul_add (2 * q) (b:=2 ^ k - 1) (i:=k) (by omega) i;rw[e,this];by_cases h1:i<k
 ·rw[if_pos h1,if_pos h1,Nat.testBit_two_pow_sub_one];simpa using h1
 ·rw[if_neg h1,if_neg h1];by_cases h2:i=k
  ·subst h2;rw[if_pos rfl,Nat.sub_self];simp[Nat.testBit_zero]
  ·rw[if_neg h2];obtain⟨j,rfl⟩:∃ j,i=k+j+1:=⟨i - k - 1,by omega⟩;rw[show k+j+1 - k=j+1 by omega,Nat.testBit_succ,show 2 * q / 2=q by omega,Nat.add_sub_cancel]
theorem zmG(h:2 ^ k * (2 * q+1)<2 ^ 64):k<64:=by
 by_cases hk:k<64
 ·exact hk
 ·exfalso;have h1:2 ^ 64<=2 ^ k:=Nat.pow_le_pow_right (by decide) (by omega);have h2:2 ^ k<=2 ^ k * (2 * q+1):=Nat.le_mul_of_pos_right _ (by omega);omega
theorem zv2(h:2 ^ k * (2 * q+1)<2 ^ 64):2 ^ k * (2 * q+1) &&& (2 ^ 64 - 2 ^ k * (2 * q+1))=2 ^ k:=by
 have hk:=zmG h;have hpos:0<2 ^ k * (2 * q+1):=Nat.mul_pos (Nat.two_pow_pos k) (by omega);apply Nat.eq_of_testBit_eq;intro i;have e:2 ^ 64 - 2 ^ k * (2 * q+1)=2 ^ 64 - ((2 ^ k * (2 * q+1) - 1)+1):=by omega
 rw[Nat.testBit_and,e,Nat.testBit_two_pow_sub_succ (by omega),Nat.testBit_two_pow,zfe,zjS];by_cases h1:i<k
 ·rw[if_pos h1];simp;omega
 ·rw[if_neg h1,if_neg h1];by_cases h2:i=k
  ·subst h2;simp[hk]
  ·rw[if_neg h2,if_neg h2];have h3:¬ k=i:=λe=>h2 e.symm
   cases q.testBit (i - k - 1) <;> simp[h3]
theorem zgN(i:Nat):(2 ^ k * (2 * q+1) &&& (2 ^ k * (2 * q+1) - 1)).testBit i=if i<=k then false else(2 ^ k * (2 * q+1)).testBit i:=by
 rw[Nat.testBit_and,zjS];by_cases h1:i<k
 ·rw[if_pos h1,if_pos (show i<=k by omega),zfe,if_pos h1];rfl
 ·rw[if_neg h1];by_cases h2:i=k
  ·rw[if_pos h2,if_pos (show i<=k by omega)];simp
  ·rw[if_neg h2,if_neg (show ¬ i<=k by omega),zfe,if_neg h1,if_neg h2];simp
def zeT(X:Nat):List Nat:=(List.range 64).filter λi=>X.testBit i
theorem zom:zeT 0=[]:=by unfold zeT;rw[List.filter_eq_nil_iff.2];intro a _;simp
theorem zon(h:2 ^ k * (2 * q+1)<2 ^ 64):zeT (2 ^ k * (2 * q+1))=k::zeT (2 ^ k * (2 * q+1) &&& (2 ^ k * (2 * q+1) - 1)):=by
 have hk:=zmG h;unfold zeT;have e:List.range 64=(List.range k ++ [k]) ++ (List.range (63 - k)).map (λj=>k+1+j):=by
  rw[<- List.range_succ,<- List.range_add]
  congr 1
  omega
 rw[e,List.filter_append,List.filter_append,List.filter_append,List.filter_append];have f1:(List.range k).filter (λi=>(2 ^ k * (2 * q+1)).testBit i)=[]:=by
  rw[List.filter_eq_nil_iff];intro i hi;rw[zfe,if_pos (List.mem_range.1 hi)];simp
 have f2:[k].filter (λi=>(2 ^ k * (2 * q+1)).testBit i)=[k]:=by
  rw[List.filter_cons,if_pos (by rw[zfe,if_neg (by omega),if_pos rfl])];rfl
 have g1:(List.range k).filter (λi=>(2 ^ k * (2 * q+1) &&& (2 ^ k * (2 * q+1) - 1)).testBit i)=[]:=by
  rw[List.filter_eq_nil_iff];intro i hi;have:=List.mem_range.1 hi;rw[zgN,if_pos (by omega)];simp
 have g2:[k].filter (λi=>(2 ^ k * (2 * q+1) &&& (2 ^ k * (2 * q+1) - 1)).testBit i)=[]:=by
  rw[List.filter_cons,if_neg (by rw[zgN,if_pos (by omega)];simp)];rfl
 have g3:((List.range (63 - k)).map (λj=>k+1+j)).filter (λi=>(2 ^ k * (2 * q+1) &&& (2 ^ k * (2 * q+1) - 1)).testBit i)=((List.range (63 - k)).map (λj=>k+1+j)).filter (λi=>(2 ^ k * (2 * q+1)).testBit i):=by
  apply List.filter_congr;intro i hi;obtain⟨j,-,rfl⟩:=List.mem_map.1 hi;rw[zgN,if_neg (by omega)]
 rw[f1,f2,g1,g2,g3];rfl
def tzTab:List Nat:=[0,1,56,2,57,49,28,3,61,58,42,50,38,29,17,4,62,47,59,36,45,43,51,22,53,39,33,30,24,18,12,5,63,55,48,27,60,41,37,16,46,35,44,21,52,32,23,11,54,26,40,15,34,20,31,10,25,14,19,9,13,8,7,6]
theorem tz_at:∀ k:Fin 64,tzTab.getD (((2 ^ k.val * 285870213051353865) % 18446744073709551616) / 288230376151711744) 0=k.val:=by decide +kernel
theorem tz_lt(n:Nat):(n % 18446744073709551616) / 288230376151711744<64:=by omega
def s1(a:Nat):Nat:=(a / 2 &&& 85)+(a &&& 85)
def s2(a:Nat):Nat:=(a / 4 &&& 51)+(a &&& 51)
def s3(a:Nat):Nat:=(a / 16+a) &&& 15
def zvC(a:Nat):Nat:=((List.range 8).filter λi=>a.testBit i).length
theorem s123:∀ a:Fin 256,s3 (s2 (s1 a.val))=zvC a.val/\s1 a.val<256/\s2 (s1 a.val)<256:=by decide +kernel
def zaT:List Nat->Nat
 | []=>0
 | a::l=>a+256 * zaT l
theorem zox:∀ (l:List Nat),(∀ a ∈ l,a<256)->zaT l<256 ^ l.length
 | [],_=>by decide
 | a::l,h=>by
   have:=zox l (λx hx=>h x (List.mem_cons_of_mem _ hx));have ha:=h a (by simp);rw[List.length_cons,Nat.pow_succ];show a+256 * zaT l<_;omega
theorem zcM(a W i:Nat)(ha:a<256):(a+256 * W).testBit i=if i<8 then a.testBit i else W.testBit (i - 8):=by
 have:=Nat.testBit_two_pow_mul_add W (b:=a) (i:=8) ha i;rw[show (2:Nat) ^ 8=256 from rfl] at this;rw[Nat.add_comm,this]
theorem zjp(a b A B:Nat)(ha:a<256)(hb:b<256):(a+256 * A) &&& (b+256 * B)=(a &&& b)+256 * (A &&& B):=by
 apply Nat.eq_of_testBit_eq;intro i;have hab:a &&& b<256:=Nat.lt_of_le_of_lt Nat.and_le_left ha;rw[Nat.testBit_and,zcM a A i ha,zcM b B i hb,zcM _ _ i hab];by_cases h:i<8
 ·rw[if_pos h,if_pos h,if_pos h,Nat.testBit_and]
 ·rw[if_neg h,if_neg h,if_neg h,Nat.testBit_and]
theorem zmd(a A b k:Nat)(ha:a<256)(hk:k<=8)(hb:b<2 ^ (8 - k))(B:Nat):((a+256 * A) / 2 ^ k) &&& (b+256 * B)=(a / 2 ^ k &&& b)+256 * ((A / 2 ^ k) &&& B):=by
 have hb8:b<256:=Nat.lt_of_lt_of_le hb (by
  have:2 ^ (8 - k)<=2 ^ 8:=Nat.pow_le_pow_right (by decide) (by omega)
  exact this)
 apply Nat.eq_of_testBit_eq;intro i;have hab:a / 2 ^ k &&& b<256:=Nat.lt_of_le_of_lt Nat.and_le_right hb8;rw[Nat.testBit_and,zcM b B i hb8,zcM _ _ i hab,<- Nat.shiftRight_eq_div_pow,Nat.testBit_shiftRight,zcM a A _ ha];by_cases h:i<8
 ·rw[if_pos h,if_pos h,Nat.testBit_and,<- Nat.shiftRight_eq_div_pow,Nat.testBit_shiftRight];by_cases h2:k+i<8
  ·rw[if_pos h2]
  ·have:b.testBit i=false:=Nat.testBit_lt_two_pow (Nat.lt_of_lt_of_le hb (Nat.pow_le_pow_right (by decide) (by omega)));rw[this];simp
 ·rw[if_neg h,if_neg h,if_neg (by omega),Nat.testBit_and,<- Nat.shiftRight_eq_div_pow,Nat.testBit_shiftRight]
  congr 2
  omega
theorem zu3(n:Nat):∀ X,X<256 ^ n->∃ l:List Nat,l.length=n/\(∀ a ∈ l,a<256)/\X=zaT l:=by
 induction n with
 | zero=>intro X h;exact⟨[],rfl,by simp,by simp at h;exact h⟩
 | succ n ih =>
   intro X h;rw[Nat.pow_succ] at h;obtain⟨l,h1,h2,h3⟩:=ih (X / 256) (by omega);refine⟨X % 256::l,by simp[h1],λa ha=>?_,?_⟩
   ·rcases List.mem_cons.1 ha with rfl | ha
    ·omega
    ·exact h2 a ha
   ·show X=X % 256+256 * zaT l;rw[<- h3];omega
theorem step1:∀ (l:List Nat),(∀ a ∈ l,a<256)->(zaT l / 2 &&& zaT (List.replicate l.length 85))+(zaT l &&& zaT (List.replicate l.length 85))=zaT (l.map s1)
 | [],_=>by decide
 | a::l,h=>by
   have ih:=step1 l (λx hx=>h x (List.mem_cons_of_mem _ hx));have ha:=h a (by simp);have e1:=zmd a (zaT l) 85 1 ha (by decide) (by decide) (zaT (List.replicate l.length 85));have e2:=zjp a 85 (zaT l) (zaT (List.replicate l.length 85)) ha (by decide);rw[show (2:Nat) ^ 1=2 from rfl] at e1;show ((a+256 * zaT l) / 2 &&& (85+256 * zaT (List.replicate l.length 85)))+((a+256 * zaT l) &&& (85+256 * zaT (List.replicate l.length 85)))=s1 a+256 * zaT (l.map s1);rw[e1,e2,<- ih];unfold s1;omega
theorem step2:∀ (l:List Nat),(∀ a ∈ l,a<256)->(zaT l / 4 &&& zaT (List.replicate l.length 51))+(zaT l &&& zaT (List.replicate l.length 51))=zaT (l.map s2)
 | [],_=>by decide
 | a::l,h=>by
   have ih:=step2 l (λx hx=>h x (List.mem_cons_of_mem _ hx));have ha:=h a (by simp);have e1:=zmd a (zaT l) 51 2 ha (by decide) (by decide) (zaT (List.replicate l.length 51));have e2:=zjp a 51 (zaT l) (zaT (List.replicate l.length 51)) ha (by decide);rw[show (2:Nat) ^ 2=4 from rfl] at e1;show ((a+256 * zaT l) / 4 &&& (51+256 * zaT (List.replicate l.length 51)))+((a+256 * zaT l) &&& (51+256 * zaT (List.replicate l.length 51)))=s2 a+256 * zaT (l.map s2);rw[e1,e2,<- ih];unfold s2;omega
def low4(a:Nat):Prop:=a % 16<=4/\a / 16<=4
theorem s2_low:∀ a:Fin 256,s2 (s1 a.val) % 16<=4/\s2 (s1 a.val) / 16<=4:=by decide +kernel
theorem and15(x:Nat):x &&& 15=x % 16:=Nat.and_two_pow_sub_one_eq_mod x 4
theorem zoy(l:List Nat)(h:∀ a ∈ l,low4 a):zaT l % 16<=4:=by
 cases l with
 | nil=>decide
 | cons a l =>
   have:=(h a (by simp)).1;show (a+256 * zaT l) % 16<=4;omega
theorem step3:∀ (l:List Nat),(∀ a ∈ l,low4 a)->(zaT l / 16+zaT l) &&& zaT (List.replicate l.length 15)=zaT (l.map s3)
 | [],_=>by decide
 | a::l,h=>by
   have hl:∀ x ∈ l,low4 x:=λx hx=>h x (List.mem_cons_of_mem _ hx);have ih:=step3 l hl;have ha:=h a (by simp);have hh:=zoy l hl;have e:(a+256 * zaT l) / 16+(a+256 * zaT l)=(a / 16+16 * (zaT l % 16)+a)+256 * (zaT l / 16+zaT l):=by omega
   have hb:a / 16+16 * (zaT l % 16)+a<256:=by have h1:=ha.1;have h2:=ha.2;omega
   show ((a+256 * zaT l) / 16+(a+256 * zaT l)) &&& (15+256 * zaT (List.replicate l.length 15))=s3 a+256 * zaT (l.map s3);rw[e,zjp _ 15 _ _ hb (by decide),ih,and15];unfold s3;rw[and15];have:(a / 16+16 * (zaT l % 16)+a) % 16=(a / 16+a) % 16:=by omega
   rw[this]
theorem zcA(a:Nat)(l:List Nat)(ha:a<256):zaT (a::l) / 256=zaT l:=by
 show (a+256 * zaT l) / 256=zaT l;omega
theorem zio:∀ (a b:List Nat),a.length=b.length->zaT a+zaT b=zaT (List.zipWith (· + ·) a b)
 | [],[],_=>rfl
 | x::a,y::b,h=>by
   have ih:=zio a b (by simpa using h);show (x+256 * zaT a)+(y+256 * zaT b)=(x+y)+256 * zaT (List.zipWith (· + ·) a b);rw[<- ih];omega
theorem zgf:∀ (a:List Nat),zaT (a ++ [0])=zaT a
 | []=>rfl
 | x::a=>by
   show x+256 * zaT (a ++ [0])=x+256 * zaT a;rw[zgf a]
theorem div_2(x:Nat):x / 65536=x / 256 / 256:=by rw[Nat.div_div_eq_div_mul]
theorem div_4(x:Nat):x / 4294967296=x / 256 / 256 / 256 / 256:=by rw[Nat.div_div_eq_div_mul,Nat.div_div_eq_div_mul,Nat.div_div_eq_div_mul]
theorem step4(b0 b1 b2 b3 b4 b5 b6 b7:Nat)(h0:b0<=8)(h1:b1<=8)(h2:b2<=8)(h3:b3<=8)(h4:b4<=8)(h5:b5<=8)(h6:b6<=8)(h7:b7<=8)(x x4 x5 x6:Nat)
 (hx:x=zaT [b0,b1,b2,b3,b4,b5,b6,b7]) (e4:x4=x+x / 256) (e5:x5=x4+x4 / 65536) (e6:x6=x5+x5 / 4294967296):x6 % 128=b0+b1+b2+b3+b4+b5+b6+b7:=by
 have c4:x4=zaT [b0+b1,b1+b2,b2+b3,b3+b4,b4+b5,b5+b6,b6+b7,b7+0]:=by
  rw[e4,hx,zcA _ _ (by omega),<- zgf [b1,b2,b3,b4,b5,b6,b7]];exact zio _ _ rfl
 have c5:x5=zaT [b0+b1+(b2+b3),b1+b2+(b3+b4),b2+b3+(b4+b5),b3+b4+(b5+b6),b4+b5+(b6+b7),b5+b6+(b7+0),b6+b7+0,b7+0+0]:=by
  rw[e5,c4,div_2,zcA _ _ (by omega),zcA _ _ (by omega),<- zgf [b2+b3,b3+b4,b4+b5,b5+b6,b6+b7,b7+0],<- zgf ([b2+b3,b3+b4,b4+b5,b5+b6,b6+b7,b7+0] ++ [0])];exact zio _ _ rfl
 have c6:∃ K,x6=(b0+b1+(b2+b3)+(b4+b5+(b6+b7)))+256 * K:=by
  rw[e6,c5,div_4,zcA _ _ (by omega),zcA _ _ (by omega),zcA _ _ (by omega),zcA _ _ (by omega)];refine⟨zaT [b1+b2+(b3+b4),b2+b3+(b4+b5),b3+b4+(b5+b6),b4+b5+(b6+b7),b5+b6+(b7+0),b6+b7+0,b7+0+0]+zaT [b5+b6+(b7+0),b6+b7+0,b7+0+0],?_⟩;generalize hA:zaT [b1+b2+(b3+b4),b2+b3+(b4+b5),b3+b4+(b5+b6),b4+b5+(b6+b7),b5+b6+(b7+0),b6+b7+0,b7+0+0]=A;generalize hC:zaT [b5+b6+(b7+0),b6+b7+0,b7+0+0]=C;have u1:∀ (p:Nat) (l:List Nat),zaT (p::l)=p+256 * zaT l:=λ_ _=>rfl;rw[u1 (b0+b1+(b2+b3)),u1 (b4+b5+(b6+b7)),hA,hC];omega
 obtain⟨K,hK⟩:=c6;rw[hK];clear hK c4 c5 e4 e5 e6 hx;omega
theorem zkU(c:Nat):∀ (l:List Nat),(∀ a ∈ l,a<=c)->255 * zaT l+c<=c * 256 ^ l.length
 | [],_=>by show 255 * 0+c<=c * 1;omega
 | a::l,h=>by
   have ih:=zkU c l (λx hx=>h x (List.mem_cons_of_mem _ hx));have ha:=h a (by simp);rw[List.length_cons,Nat.pow_succ,<- Nat.mul_assoc];show 255 * (a+256 * zaT l)+c<=c * 256 ^ l.length * 256;omega
theorem m85:(6148914691236517205:Int)=((zaT (List.replicate 8 85):Nat):Int):=by decide +kernel
theorem m51:(3689348814741910323:Int)=((zaT (List.replicate 8 51):Nat):Int):=by decide +kernel
theorem m15:(1085102592571150095:Int)=((zaT (List.replicate 8 15):Nat):Int):=by decide +kernel
theorem wlt(hl:l.length=8)(h:∀ a ∈ l,a<256):zaT l<2 ^ 64:=by
 have:=zox l h;rw[hl] at this;exact this
theorem wrep(c:Nat)(hc:c<256):zaT (List.replicate 8 c)<2 ^ 64:=wlt (by simp) (λa ha=>by rw[List.eq_of_mem_replicate ha];exact hc)
theorem o1_w(hl:l.length=8)(h:∀ a ∈ l,a<256):o1 (zaT l:Int)=(zaT (l.map s1):Int):=by
 have hs:=step1 l h;rw[hl] at hs;have hX:=wlt hl h;have hM:=wrep 85 (by decide)
 have hY:zaT (l.map s1)<2 ^ 64:=wlt (by simpa using hl) (λa ha=>by
  obtain⟨b,hb,rfl⟩:=List.mem_map.1 ha
  exact(s123 ⟨b,h b hb⟩).2.1)
 unfold o1;rw[m85,show (zaT l:Int) / 2=((zaT l / 2:Nat):Int) by omega,zdZ _ _ (by omega) hM,zdZ _ _ hX hM,<- Int.natCast_add,hs];exact zcz _ (Int.natCast_nonneg _) (by exact_mod_cast hY)
theorem o2_w(hl:l.length=8)(h:∀ a ∈ l,a<256):o2 (zaT (l.map s1):Int)=(zaT ((l.map s1).map s2):Int):=by
 have h1:∀ a ∈ l.map s1,a<256:=λa ha=>by
  obtain⟨b,hb,rfl⟩:=List.mem_map.1 ha;exact(s123 ⟨b,h b hb⟩).2.1
 have hs:=step2 (l.map s1) h1;rw[List.length_map,hl] at hs;have hX:=wlt (l:=l.map s1) (by simpa using hl) h1;have hM:=wrep 51 (by decide)
 have hY:zaT ((l.map s1).map s2)<2 ^ 64:=wlt (by simpa using hl) (λa ha=>by
  obtain⟨b,hb,rfl⟩:=List.mem_map.1 ha;obtain⟨c,hc,rfl⟩:=List.mem_map.1 hb
  exact(s123 ⟨c,h c hc⟩).2.2)
 unfold o2;rw[m51,show (zaT (l.map s1):Int) / 4=((zaT (l.map s1) / 4:Nat):Int) by omega,zdZ _ _ (by omega) hM,zdZ _ _ hX hM,<- Int.natCast_add,hs];exact zcz _ (Int.natCast_nonneg _) (by exact_mod_cast hY)
theorem o3_w(hl:l.length=8)(h:∀ a ∈ l,low4 a):o3 (zaT l:Int)=(zaT (l.map s3):Int):=by
 have hs:=step3 l h;rw[hl] at hs;have hM:=wrep 15 (by decide);have hle:=zkU 68 l (λa ha=>by have h1:=(h a ha).1;have h2:=(h a ha).2;omega);rw[hl,show (256:Nat) ^ 8=18446744073709551616 from rfl] at hle;have hX:zaT l / 16+zaT l<2 ^ 64:=by omega
 unfold o3;rw[m15,show (zaT l:Int) / 16+(zaT l:Int)=((zaT l / 16+zaT l:Nat):Int) by omega,zcz _ (Int.natCast_nonneg _) (by exact_mod_cast hX),zdZ _ _ hX hM,hs]
theorem and127(n:Int):bits .and .i64 n 127=n % 128:=by
 show IntKind.i64.wrap ((BitVec.ofInt 64 n &&& BitVec.ofInt 64 127).toNat:Int)=_;rw[BitVec.toNat_and,show (BitVec.ofInt 64 127).toNat=2 ^ 7 - 1 by decide,Nat.and_two_pow_sub_one_eq_mod,BitVec.toNat_ofInt,IntKind.wrap_i64];have e:((n % ((2 ^ 64:Nat):Int)).toNat:Int)=n % 18446744073709551616:=by
  rw[Int.toNat_of_nonneg (Int.emod_nonneg _ (by decide))];rfl
 rw[Int.natCast_emod,e];show (n % 18446744073709551616 % 128+9223372036854775808) % 18446744073709551616 - 9223372036854775808=n % 128;omega
def pop(k n:Nat):Nat:=((List.range k).filter λi=>n.testBit i).length
theorem zso(a W m:Nat)(ha:a<256):pop (8+m) (a+256 * W)=zvC a+pop m W:=by
 unfold pop zvC;rw[List.range_add,List.filter_append,List.length_append,List.filter_map,List.length_map]
 congr 1
 ·congr 1
  apply List.filter_congr;intro i hi;rw[zcM a W i ha,if_pos (List.mem_range.1 hi)]
 ·congr 1
  apply List.filter_congr;intro i _;show (a+256 * W).testBit (8+i)=_;rw[zcM a W _ ha,if_neg (by omega)]
  congr 1
  omega
theorem zvB(a:Nat):zvC a<=8:=by
 unfold zvC;have:=List.length_filter_le (λi=>a.testBit i) (List.range 8);simpa using this
theorem eight(l:List Nat)(h:l.length=8):∃ a b c d e f g i,l=[a,b,c,d,e,f,g,i]:=by
 match l,h with
 | [a,b,c,d,e,f,g,i],_=>exact⟨a,b,c,d,e,f,g,i,rfl⟩
theorem zin(x:Nat)(h:x<2 ^ 64):IntKind.u64.wrap (x:Int)=(x:Int):=zcz _ (Int.natCast_nonneg _) (by exact_mod_cast h)
theorem o7_w(x:Nat):o7 (x:Int)=((x % 128:Nat):Int):=by
 unfold o7;rw[and127];unfold wrap64;omega
theorem o4567(hl:l.length=8)(h:∀ a ∈ l,a<=8):o7 (o6 (o5 (o4 (zaT l:Int))))=(l.sum:Int):=by
 have hle:=zkU 8 l h;rw[hl,show (256:Nat) ^ 8=18446744073709551616 from rfl] at hle;have e4:o4 (zaT l:Int)=((zaT l+zaT l / 256:Nat):Int):=by
  unfold o4;rw[show (zaT l:Int)+(zaT l:Int) / 256=((zaT l+zaT l / 256:Nat):Int) by omega];exact zin _ (by omega)
 generalize h4:zaT l+zaT l / 256=x4 at e4;have b4:x4<=2 * 578721382704613384:=by omega
 have e5:o5 (x4:Int)=((x4+x4 / 65536:Nat):Int):=by
  unfold o5;rw[show (x4:Int)+(x4:Int) / 65536=((x4+x4 / 65536:Nat):Int) by omega];exact zin _ (by omega)
 generalize h5:x4+x4 / 65536=x5 at e5;have b5:x5<=4 * 578721382704613384:=by omega
 have e6:o6 (x5:Int)=((x5+x5 / 4294967296:Nat):Int):=by
  unfold o6;rw[show (x5:Int)+(x5:Int) / 4294967296=((x5+x5 / 4294967296:Nat):Int) by omega];exact zin _ (by omega)
 generalize h6:x5+x5 / 4294967296=x6 at e6;rw[e4,e5,e6,o7_w x6];obtain⟨a,b,c,d,e,f,g,i,rfl⟩:=eight l hl;rw[step4 a b c d e f g i (h _ (by simp)) (h _ (by simp)) (h _ (by simp)) (h _ (by simp)) (h _ (by simp)) (h _ (by simp)) (h _ (by simp)) (h _ (by simp)) _ x4 x5 x6 rfl h4.symm h5.symm h6.symm];simp only[List.sum_cons,List.sum_nil];omega
theorem zmn:∀ (l:List Nat),(∀ a ∈ l,a<256)->pop (8 * l.length) (zaT l)=(l.map zvC).sum
 | [],_=>by decide
 | a::l,h=>by
   have ih:=zmn l (λx hx=>h x (List.mem_cons_of_mem _ hx));rw[List.length_cons,show 8 * (l.length+1)=8+8 * l.length by omega];show pop (8+8 * l.length) (a+256 * zaT l)=_;rw[zso _ _ _ (h a (by simp)),ih,List.map_cons,List.sum_cons]
theorem zsz(n:Nat)(hn:n<2 ^ 64):zlg (n:Int)=(pop 64 n:Int):=by
 obtain⟨l,hl,h,rfl⟩:=zu3 8 n hn;unfold zlg;rw[o1_w hl h,o2_w hl h,o3_w (by simpa using hl) ?low]
 case low =>
  intro a ha;obtain⟨b,hb,rfl⟩:=List.mem_map.1 ha;obtain⟨c,hc,rfl⟩:=List.mem_map.1 hb;exact s2_low ⟨c,h c hc⟩
 have hm:((l.map s1).map s2).map s3=l.map zvC:=by
  rw[List.map_map,List.map_map];apply List.map_congr_left;intro a ha;exact(s123 ⟨a,h a ha⟩).1
 rw[hm,o4567 (by simpa using hl) (λa ha=>by
  obtain⟨b,hb,rfl⟩:=List.mem_map.1 ha
  exact zvB b),<- zmn l h,hl]
theorem pop_le(k n:Nat):pop k n<=k:=by
 unfold pop;have:=List.length_filter_le (λi=>n.testBit i) (List.range k);simpa using this
theorem zuH(ha:zhH a)(hb:zhH b)(t:Int)(X:Nat)(h1:∀ s,s≠t->zbA b s=zbA a s)(h2:(zbA b t).toNat=(zbA a t).toNat ||| X)(m:Int) :
 hasB b m=(hasB a m || (decide (m / 64=t) && X.testBit (m % 64).toNat)):=by
 rw[zcX hb,zcX ha];by_cases hd:m / 64=t
 ·rw[hd,h2,Nat.testBit_or];simp
 ·rw[h1 _ hd];simp[hd]
def znQ(bl:List Blk)(t:Int)(X:Nat):Int:=(pop 64 (zuz X (zbA bl t).toNat):Int)
theorem zpQ(bl:List Blk)(t:Int)(X:Nat):0<=znQ bl t X/\znQ bl t X<=64:=by
 have:=pop_le 64 (zuz X (zbA bl t).toNat);unfold znQ;omega
theorem ziH(bl:List Blk)(t:Int)(X Y:Nat)(hY:zbA bl t=(Y:Int))(w:World) :
 Calls Tryz.prog 204 #[.int .u64 (bits .andNot .u64 (X:Int) (Y:Int))] w λe w'=>e=.returned (.int .i64 (znQ bl t X))/\w'=w:=by
 have:=ziI (bits .andNot .u64 (X:Int) (Y:Int)) w;unfold znQ;rw[hY,Int.toNat_natCast];rw[zpJ] at this ⊢;rw[zsz _ (zpK X Y)] at this;exact this
theorem zv8(B:Nat)(O:Nat->Prop)(bl:List Blk)(sz t:Int)(X:Nat)(ht:0<=t/\t<16384)(hX:X<2 ^ 64)(hX0:X≠0)(hsz:0<=sz/\sz<=1099511627776)(w:World)(h:SetOk w B O bl sz) :
 Calls Tryz.prog 163 #[.pointer (some ⟨B,0,none⟩),.agg #[.int .i64 t,.int .u64 (X:Int)]] w λe w'=>e=.returned (.int .i64 (znQ bl t X))/\Off O w w' /\
  ∃ bl' O',SetOk w' B O' bl' (sz+znQ bl t X)/\(∀ k,O' k->O k\/w.heap.size<=k)/\∀ m,hasB bl' m=(hasB bl m || (decide (m / 64=t) && X.testBit (m % 64).toNat)):=by
 have hup:=h.is.up;have hfit:=h.fit
 cases hat:zg7 bl t
 ·have hb0:zbA bl t=0:=by unfold zbA;rw[hat];rfl
  have hlen:=zdd hup hfit;have ho:bits .or .u64 0 (X:Int)=(X:Int):=by
   have:=zjX 0 X (by decide) hX;rw[Nat.zero_or] at this;exact this
  have key:=zp6 B O bl sz t (X:Int) (znQ bl t X) hat (by omega) hsz (zpQ _ _ _) (λw=>ziH bl t X 0 hb0 w) w h.is;rw[ho] at key;have hri:=zgL hup hat (X:Int);have hfi:=zqB hfit (loc bl t) (t,(X:Int)) ⟨ziQ hX,ht⟩;refine key.mono λe w' ⟨e1,e2,e3⟩=>⟨e1,e2,_,_,⟨e3,hfi,zmP h.full _ _ (show (X:Int)≠0 by omega)⟩,λk hk=>hk.imp id (λh=>h.1),λm=>?_⟩;refine zuH hfit hfi t X (λs hs=>zes hri hup (λy=>zpU _ _ _ hs)) ?_ m;rw[zbt hri (show (t,(X:Int)) ∈ _ by unfold zel;simp),hb0,Int.toNat_natCast];simp
 ·obtain⟨hl,he⟩:=(zi4 hup t).1 hat;have hmem:bl.getD (loc bl t) (0,0) ∈ bl:=by rw[za8 _ _ hl];exact List.getElem_mem _
  have hb0:zbA bl t=(bl.getD (loc bl t) (0,0)).2:=by unfold zbA;rw[hat];rfl
  obtain⟨Y,hY⟩:=Int.eq_ofNat_of_zero_le (hfit _ hmem).1.1;have hY2:Y<2 ^ 64:=by have:=(hfit _ hmem).1.2;rw[hY] at this;omega
  have ho:bits .or .u64 (bl.getD (loc bl t) (0,0)).2 (X:Int)=((Y ||| X:Nat):Int):=by rw[hY];exact zjX Y X hY2 hX
  have key:=zkc B O bl sz t (X:Int) (znQ bl t X) hat hsz (zpQ _ _ _) (λw=>by
   rw[hY]
   exact ziH bl t X Y (hb0.trans hY) w) w h.is
  rw[ho,he] at key;have hor:Y ||| X<2 ^ 64:=Nat.or_lt_two_pow hY2 hX
  have hfi:=zqz hfit (loc bl t) (t,((Y ||| X:Nat):Int)) ⟨ziQ hor,ht⟩;have hri:zcl (bl.set (loc bl t) (t,((Y ||| X:Nat):Int))):=by have:=zgK hup (loc bl t) ((Y ||| X:Nat):Int);rw[he] at this;exact this
  refine key.mono λe w' ⟨e1,e2,e3⟩=>⟨e1,e2,_,_,⟨e3,hfi,zmO h.full _ _ (zpz hX0)⟩,λk hk=>.inl hk,λm=>?_⟩;refine zuH hfit hfi t X (λs hs=>zes hri hup (λy=>mem_set hl _ hs he)) ?_ m;rw[zbt hri (show (t,((Y ||| X:Nat):Int)) ∈ _ from List.mem_set hl _),hb0,hY,Int.toNat_natCast,Int.toNat_natCast]
def zmB(h:Int->Bool)(t:Int)(X:Nat):Int:=(((List.range 64).filter λi=>X.testBit i && !h (64 * t+i)).length:Nat)
theorem zs7(hf:zhH bl)(t:Int)(X:Nat)(hX:X<2 ^ 64):znQ bl t X=zmB (hasB bl) t X:=by
 unfold znQ zmB pop
 congr 2
 apply List.filter_congr;intro i hi;have hi:=List.mem_range.1 hi;rw[ziM _ _ _ hX,zcX hf,show (64 * t+(i:Int)) / 64=t by omega,show ((64 * t+(i:Int)) % 64).toNat=i by omega]
theorem zpP(h:Int->Bool)(t:Int)(X:Nat):0<=zmB h t X/\zmB h t X<=64:=by
 unfold zmB;have:=List.length_filter_le (λi=>X.testBit i && !h (64 * t+(i:Int))) (List.range 64);rw[List.length_range] at this;omega
def joinS(h:Int->Bool)(cl:List Blk):(Int->Bool) × Int:=cl.foldl (λp b=>(λm=>p.1 m || (decide (m / 64=b.1) && b.2.toNat.testBit (m % 64).toNat),p.2+zmB p.1 b.1 b.2.toNat)) (h,0)
theorem zek(h:Int->Bool)(l:List Blk)(k:Nat)(hk:k<l.length):joinS h (l.take (k+1))=(λm=>(joinS h (l.take k)).1 m || (decide (m / 64=(l.getD k (0,0)).1) && (l.getD k (0,0)).2.toNat.testBit (m % 64).toNat),(joinS h (l.take k)).2+zmB (joinS h (l.take k)).1 (l.getD k (0,0)).1 (l.getD k (0,0)).2.toNat):=by
 unfold joinS;rw[List.take_add_one,List.getElem?_eq_getElem hk,List.foldl_append,List.getD_eq_getElem?_getD,List.getElem?_eq_getElem hk];rfl
theorem ztp(h:Int->Bool)(l:List Blk)(k:Nat)(hk:k<=l.length):0<=(joinS h (l.take k)).2/\(joinS h (l.take k)).2<=64 * k:=by
 induction k with
 | zero=>simp[joinS]
 | succ k ih =>
   rw[zek h l k (by omega)];have:=ih (by omega);have:=zpP (joinS h (l.take k)).1 (l.getD k (0,0)).1 (l.getD k (0,0)).2.toNat;simp only;omega
theorem join_any(B C:Nat)(O P:Nat->Prop)(bl cl:List Blk)(sz n:Int)(hsz:0<=sz/\sz<=1099510579200)(w:World)(h:SetOk w B O bl sz)(hc:SetOk w C P cl n)(hd:∀ k,P k->¬ O k) :
 Calls Tryz.prog 117 #[.pointer (some ⟨B,0,none⟩),.pointer (some ⟨C,0,none⟩)] w λe w'=>e=.returned (.int .i64 (joinS (hasB bl) cl).2)/\Off O w w' /\
  ∃ bl' O',SetOk w' B O' bl' (sz+(joinS (hasB bl) cl).2)/\(∀ k,O' k->O k\/w.heap.size<=k)/\∀ m,hasB bl' m=(joinS (hasB bl) cl).1 m:=by
 obtain⟨sv,hB,hr,hs⟩:=hc.is.lies;obtain⟨va,vc,rfl⟩:=zaf hr;have hrow:=zeq hr;have hlen:=zdd hc.is.up hc.fit;have hfit:=hc.fit;have c0:=cell_block hB 0 _ rfl;have hltC:=lt_of_some hB;have Hrow:=zaa hrow;have Hfit:=zaa hfit;have Hfull:=zaa hc.full;have Hnot:Hid (∀ k,(Value.slice va cl.length vc).ownBlock=some k->¬ O k):=zaa (λk hk=>hd k (hs k hk));have HOl:=zaa h.is.lt
 have H0:Hid (∃ bl' O',SetOk w B O' bl' (sz+(joinS (hasB bl) (cl.take 0)).2)/\(∀ k,O' k->O k\/w.heap.size<=k)/\∀ m,hasB bl' m=(joinS (hasB bl) (cl.take 0)).1 m):=zaa ⟨bl,O,by
  show SetOk w B O bl (sz+0)
  rw[Int.add_zero];exact h,λk hk=>.inl hk,λm=>rfl⟩
 clear h hc hB hr hs hrow hfit hd;generalize hasB bl=hs at *;go_enter Tryz.func117,Tryz.ntmps117;go_wp2
 go_loopw [19,5] (λx s wr=>∃ k:Nat,x=.int .i64 k/\k<=cl.length/\s=.int .i64 (joinS hs (cl.take k)).2/\Off O w wr/\∃ bl' O',SetOk wr B O' bl' (sz+(joinS hs (cl.take k)).2)/\(∀ k,O' k->O k\/w.heap.size<=k)/\∀ m,hasB bl' m=(joinS hs (cl.take k)).1 m) (λx _ _=>cl.length - (intOf x).toNat)
 case atStart=>exact⟨0,rfl,Nat.zero_le _,rfl,zaJ _ _,uh H0⟩
 case round =>
  obtain⟨k,rfl,hk,rfl,hoff,bl1,O1,hok,hO1,hhas⟩:=hrel;by_cases hlt:k<cl.length
  ·have hlt':(k:Int)<cl.length:=by omega
   rcases uh Hrow with h | ⟨g,rfl,hgl,hcells⟩
   ·subst h;simp at hlt
   obtain⟨d0,d1⟩:=hcells k hlt;have hgO:¬ O g:=uh Hnot g rfl;have e0:=(zgp hoff (p:=⟨g,k * 2,none⟩) hgl hgO).trans d0;have e1:=(zgp hoff (p:=⟨g,k * 2+1,none⟩) hgl hgO).trans d1;have hmem:cl.getD k (0,0) ∈ cl:=by rw[za8 _ _ hlt];exact List.getElem_mem _
   obtain⟨hf1,hf2⟩:=uh Hfit _ hmem;have hfu:=uh Hfull _ hmem;have hle:=ztp hs cl k hk;have HS:=zaa (zek hs cl k hlt);clear d0 d1 hcells hmem;generalize cl.getD k (0,0)=b at *;obtain⟨t,y⟩:=b;simp only at e0 e1 hf1 hf2 hfu;obtain⟨Y,rfl⟩:=Int.eq_ofNat_of_zero_le hf1.1;have hY:Y<2 ^ 64:=by have:=hf1.2;omega
   have hY0:Y≠0:=by omega
   have HL:=zaa (λw' (hb:Below wr.heap.size wr w')=>zv8 B O1 bl1 (sz+(joinS hs (cl.take k)).2) t Y hf2 hY hY0 (by omega) w' (zmu hok hb));have heq:hasB bl1=(joinS hs (cl.take k)).1:=funext hhas;rw[zs7 hok.fit t Y hY,heq] at HL;simp only[Int.toNat_natCast] at HS;have Hoff:=zaa hoff;have HO1:=zaa hO1;have hwl:=hoff.size;have hk01:=zpP (joinS hs (cl.take k)).1 t Y;have hws:IntKind.i64.wrap ((joinS hs (cl.take k)).2+zmB (joinS hs (cl.take k)).1 t Y)=(joinS hs (cl.take k)).2+zmB (joinS hs (cl.take k)).1 t Y:=by rw[IntKind.wrap_i64];omega
   clear hok hhas hoff H0 hle hk01 heq hY hf1 hf2 hY0 hfu;generalize zmB (joinS hs (cl.take k)).1 t Y=kk at *;generalize hcs:(joinS hs (cl.take k)).2=cs at *;have Hcs:=zaa hcs;clear hcs;have Hb:Hid (Below wr.heap.size wr (wr.alloc (.cells #[.int .i64 t,.int .u64 (Y:Int)] 244))):=zaa ((Below.refl _ _).alloc (Nat.le_refl _) _);go_wp2_with (go_at_call 163;refine(uh HL _ (uh Hb)).mono ?_;rintro e w2 ⟨rfl,ho,bl2,O2,hok2,hO2,hhas2⟩;have Ho:=zaa ho;have Hok2:=zaa hok2;have HO2:=zaa hO2;have Hhas2:=zaa hhas2;clear ho hok2 hO2 hhas2);go_roundw
   case rel =>
    have hsz1:=(uh Hb).size;refine⟨k+1,by go_num,by omega,?_,zj0 (uh Hoff) (zgR (zbj (uh Hb)) (uh Ho)) (uh HO1),bl2,O2,?_,λj hj=>?_,λm=>?_⟩
    ·rw[uh HS]
    ·rw[uh HS];have:=uh Hok2;rw[Int.add_assoc] at this;exact this
    ·rcases uh HO2 j hj with h | h
     ·exact uh HO1 j h
     ·exact .inr (by omega)
    ·rw[uh Hhas2,uh HS]
   case measure=>simp[intOf];omega
  ·obtain rfl:k=cl.length:=by omega
   have hlt':¬ ((cl.length:Int)<cl.length):=by omega
   rw[List.take_length] at *;have Hok:=zaa hok;have HO1:=zaa hO1;have Hhas:=zaa hhas;have Hoff:=zaa hoff;clear hok hO1 hhas hoff H0;go_wp2;go_ret;exact⟨rfl,uh Hoff,bl1,O1,uh Hok,uh HO1,uh Hhas⟩
end Go.Proofs.YtieciibnajeibaaGreatDoor.Wk

import Derived.Test.YtieciibnajeibaaGreatDoorWkS3
set_option maxHeartbeats 8000000
set_option maxRecDepth 100000
namespace Go.Proofs.YtieciibnajeibaaGreatDoor.Wk
open Go.RowKit Go.Maps
def hasB(bl:List Blk)(n:Int):Bool:=bits .and .u64 (zbA bl (n / 64)) (zjm n) != 0
theorem zgK{bl:List Blk}(h:zcl bl)(i:Nat)(y:Int):zcl (bl.set i ((bl.getD i (0,0)).1,y)):=by
 unfold zcl at *;rw[List.pairwise_iff_getElem] at *;intro a b ha hb hab;simp only[List.length_set] at ha hb;have key:∀ k (hk:k<bl.length),((bl.set i ((bl.getD i (0,0)).1,y))[k]'(by simpa using hk)).1=bl[k].1:=by
  intro k hk;rw[List.getElem_set]
  split
  ·rename_i e;subst e;rw[za8 _ _ hk]
  ·rfl
 rw[key a ha,key b hb];exact h a b ha hb hab
theorem zks(bl:List Blk)(i:Nat)(hi:i<bl.length)(y:Int):zaF (bl.set i ((bl.getD i (0,0)).1,y))=(zaF bl).set (i * 2+1) (.int .u64 y):=by
 induction bl generalizing i with
 | nil=>simp at hi
 | cons b bl ih =>
   cases i with
   | zero=>rfl
   | succ i =>
     rw[List.set_cons_succ,zbJ,zbJ,show (i+1) * 2+1=(i * 2+1)+1+1 by omega,List.set_cons_succ,List.set_cons_succ];have:=ih i (by simpa using hi);simp only[List.getD_cons_succ];rw[this]
variable{B N b c g i mb:Nat}{D:DataW Unit}{O O':Nat->Prop}{ps:List MemPlace}{v:Value}{w w':World}{xs:List Value}
theorem ze8{e:TypeId}{size:Nat}{n:Nat}(h:w.ownsRow B e size v n xs)(q:Nat):(w.drewN q).ownsRow B e size v n xs:=h
theorem za7{a:World}(h:Off O a w)(q:Nat):Off O a (w.drewN q):=⟨h.os,h.tape,h.output,h.size,h.block⟩
theorem zkc(B:Nat)(O:Nat->Prop)(bl:List Blk)(n t x k:Int)(hat:zg7 bl t=true)(hn:0<=n/\n<=1099511627776)(hk:0<=k/\k<=64)
 (hones:∀ w,Calls Tryz.prog 204 #[.int .u64 (bits .andNot .u64 x (bl.getD (loc bl t) (0,0)).2)] w λe w'=>e=.returned (.int .i64 k)/\w'=w) (w:World) (h:SetIs w B O bl n) :
 Calls Tryz.prog 163 #[.pointer (some ⟨B,0,none⟩),.agg #[.int .i64 t,.int .u64 x]] w λe w'=>e=.returned (.int .i64 k)/\Off O w w' /\
  SetIs w' B O (bl.set (loc bl t) ((bl.getD (loc bl t) (0,0)).1,bits .or .u64 (bl.getD (loc bl t) (0,0)).2 x)) (n+k):=by
 have hl:=zp2 hat;have hb0:Below w.heap.size w (w.alloc (.cells #[.int .i64 t,.int .u64 x] 244)):=(Below.refl _ _).alloc (Nat.le_refl _) _;have HF:=zaa (zi6 B O bl n t _ (zb9 h hb0));rw[hat] at HF
 have HC:Hid (∀ w',Below w.heap.size w w'->∃ g c,w'.heap[B]? = some (.cells #[.slice (some ⟨g,0,none⟩) bl.length c,.int .i64 n] 233 (0,0))/\w'.ownsRow 0 244 2 (.slice (some ⟨g,0,none⟩) bl.length c) bl.length (zaF bl)/\O g/\g≠B/\g<w.heap.size/\w'.cell? ⟨g,loc bl t * 2+1,none⟩=some (.int .u64 (bl.getD (loc bl t) (0,0)).2)):=zaa (λw' hb=>by
  obtain⟨sv,hB,hr,hs⟩:=(zb9 h hb).lies;obtain⟨a,c,rfl⟩:=zaf hr;have n1:=zbd hB hr (by decide);rcases zeq hr with h0 | ⟨g,rfl,hgl,hc⟩
  ·subst h0;simp at hl
  ·exact⟨g,c,hB,hr,hs g rfl,λe=>n1 (by rw[e];rfl),h.lt g (hs g rfl),(hc _ hl).2⟩)
 have HB:=zaa h.own;have HL:=zaa h.lt;have HU:=zaa (zgK h.up (loc bl t) (bits .or .u64 (bl.getD (loc bl t) (0,0)).2 x));have HS:=zaa h.short;have HX:=zaa (zks bl (loc bl t) hl (bits .or .u64 (bl.getD (loc bl t) (0,0)).2 x));have hlt:=h.lt B h.own;have hl':(loc bl t:Int)<bl.length:=by omega
 have HO:=zaa hones;have hbl:=h.short;clear h hat hones hb0;generalize bl.set (loc bl t) ((bl.getD (loc bl t) (0,0)).1,bits .or .u64 (bl.getD (loc bl t) (0,0)).2 x)=bl' at *;generalize (bl.getD (loc bl t) (0,0)).2=y at *;generalize loc bl t=i at *;go_enter Tryz.func163,Tryz.ntmps163;go_wp2_with (go_at_call 202;refine(uh HF).mono ?_;rintro e w1 ⟨rfl,hb⟩);have hbw:Below w.heap.size w w1:=((Below.refl _ _).alloc (Nat.le_refl _) _).trans (hb.mono (by simp));have cx:w1.cell? ⟨w.heap.size,1,none⟩=some (.int .u64 x):=(hb.cell (p:=⟨w.heap.size,1,none⟩) (by simp)).trans (World.cell?_alloc_mark w #[.int .i64 t,.int .u64 x] 244 (0,0) 1);obtain⟨g,c,hB1,hr1,hOg,hgB,hgl,cg⟩:=uh HC w1 hbw;have c0:=cell_block hB1 0 _ rfl;have c1:=cell_block hB1 1 _ rfl;have f1:=frozen_block hB1 1;have fg:w1.frozen? ⟨g,i * 2+1,none⟩=false:=hr1.frozenAt _;have HB1:=zaa hB1;have Hr1:=zaa hr1;have Hbw:=zaa hbw;clear hB1 hr1 hb hbw HC;go_quiet ((go_at_call 204;exact Calls.quiet_of_same (uh HO _)));go_wp2
 go_region
 go_wp2;go_ret;have s1:=(ze8 (uh Hr1) (nq+1)).stored (i * 2+1) (.int .u64 (bits .or .u64 y x));have hB2:((w1.drewN (nq+1)).setCell ⟨g,i * 2+1,none⟩ (.int .u64 (bits .or .u64 y x))).heap[B]? = some (.cells #[.slice (some ⟨g,0,none⟩) bl.length c,.int .i64 n] 233 (0,0)):=(Below.heap_setCell (w1.drewN (nq+1)) ⟨g,i * 2+1,none⟩ _ B (λe=>hgB e.symm)).trans (uh HB1)
 have ho:Off O w (((w1.drewN (nq+1)).setCell ⟨g,i * 2+1,none⟩ (.int .u64 (bits .or .u64 y x))).setCell ⟨B,1,none⟩ (.int .i64 (n+k))) :=
  zaL (zaL (za7 (zbj (uh Hbw)) _) (p:=⟨g,i * 2+1,none⟩) (.inl hOg) _) (p:=⟨B,1,none⟩) (.inl (uh HB)) _
 refine⟨rfl,ho,uh HB,λk hk=>Nat.lt_of_lt_of_le (uh HL k hk) ho.size,uh HU,?_,.slice (some ⟨g,0,none⟩) bl.length c,block_set hB2 _,?_,?_⟩
 ·have:=congrArg List.length (uh HX);rw[zaN,List.length_set,zaN] at this;omega
 ·have hl:=congrArg List.length (uh HX);rw[zaN,List.length_set,zaN] at hl;rw[uh HX,show bl'.length=bl.length by omega];exact own_off (O:=λk=>k=B) s1.1 (zaL (O:=λk=>k=B) (zaJ _ _) (p:=⟨B,1,none⟩) (.inl rfl) _) (λk hk e=>by simp only[Value.ownBlock,Option.some.injEq] at hk;omega)
 ·intro k hk;simp only[Value.ownBlock,Option.some.injEq] at hk;exact hk▸hOg
def o1(x:Int):Int:=IntKind.u64.wrap (bits .and .u64 (x / 2) 6148914691236517205+bits .and .u64 x 6148914691236517205)
def o2(x:Int):Int:=IntKind.u64.wrap (bits .and .u64 (x / 4) 3689348814741910323+bits .and .u64 x 3689348814741910323)
def o3(x:Int):Int:=bits .and .u64 (IntKind.u64.wrap (x / 16+x)) 1085102592571150095
def o4(x:Int):Int:=IntKind.u64.wrap (x+x / 256)
def o5(x:Int):Int:=IntKind.u64.wrap (x+x / 65536)
def o6(x:Int):Int:=IntKind.u64.wrap (x+x / 4294967296)
def o7(x:Int):Int:=bits .and .i64 (wrap64 x) 127
def zlg(x:Int):Int:=o7 (o6 (o5 (o4 (o3 (o2 (o1 x))))))
theorem ziI(x:Int)(w:World) :
 Calls Tryz.prog 204 #[.int .u64 x] w λe w'=>e=.returned (.int .i64 (zlg x))/\w'=w:=by
 go_enter Tryz.func204,Tryz.ntmps204;go_wp2;go_ret;exact⟨rfl,rfl⟩
theorem zpB:zlg 0=0:=by decide +kernel
theorem zsD:∀ j:Fin 64,zlg ((2 ^ j.val:Nat):Int)=1:=by decide +kernel
theorem hblk:(Tryz.prog.info? 244).map (λi=>(i.zero,i.size,i.bytes))=some (some (.agg #[.int .i64 0,.int .u64 0]),2,16):=by kernel_rfl
structure Tk where
 at_:Nat
 n:Int
 wt:Int
def tk0:Tk:=⟨0,0,0⟩
def lessT(a b:Tk):Bool:=decide (a.wt<b.wt) || (decide (a.wt=b.wt) && decide (a.n<b.n))
def zcO(t:Tk):Value:=.pointer (some ⟨t.at_,0,none⟩)
def zfy:Value->Option (DataW Unit × List MemPlace)
 | .pointer none=>some (.lit (.int .i64 0),[])
 | .pointer (some ⟨b,0,none⟩)=>some (.lit (.int .i64 ((b:Int)+1)),[])
 | _=>none
theorem zpm(h:zfy v=some (.lit (.int .i64 0),ps)):v=.pointer none:=by
 unfold zfy at h
 split at h
 ·rfl
 ·simp at h;omega
 ·simp at h
theorem zvr(h:zfy v=some (.lit (.int .i64 ((b:Int)+1)),ps)):v=.pointer (some ⟨b,0,none⟩):=by
 unfold zfy at h
 split at h
 ·simp at h;omega
 ·simp at h;rename_i b';have e:b'=b:=by omega
  rw[e]
 ·simp at h
theorem zke:Keyed Tryz.prog 3:=int_keyed Tryz.underlying3
theorem zov(w:World):(zeroValue 246).run Tryz.prog w=.ok (.pointer none) w:=by kernel_rfl
def zbz(ts:List Tk)(n:Int):Int:=match ts.find? (λt=>t.n == n) with | some t=>(t.at_:Int)+1 | none=>0
structure LstIs (w:World) (B:Nat) (O:Nat->Prop) (ts:List Tk):Prop where
 own:O B
 lt:∀ k,O k->k<w.heap.size
 nums:∀ t ∈ ts,0<=t.n/\t.n<1048576 /\ -9223372036854775808<=t.wt/\t.wt<=9223372036854775807
 apart:(ts.map Tk.n).Nodup
 blocks:(ts.map Tk.at_).Nodup
 tasks:∀ i,i<ts.length->O (ts.getD i tk0).at_/\w.heap[(ts.getD i tk0).at_]? = some (.cells #[.int .i64 (ts.getD i tk0).n,.int .i64 (ts.getD i tk0).wt,.int .i64 i] 251 (0,0))
 lies:∃ sv mo,w.heap[B]? = some (.cells #[sv,.map mo] 239 (0,0))/\w.ownsRow 0 246 1 sv ts.length (ts.map zcO)/\(∀ k,sv.ownBlock=some k->O k) /\
  ((mo=none/\ts=[])\/∃ mb D N,mo=some mb/\O mb/\N<=1048576/\w.ownsMap (H:=Unit) Tryz.prog 3 zfy mb N D/\Tidy D/\Maps.size D=ts.length/\∀ n,Maps.has D (.int .i64 n)=decide (n ∈ ts.map Tk.n)/\D.atKey (.int .i64 n) (.lit (.int .i64 0))=.lit (.int .i64 (zbz ts n)))
theorem lst_off{ts:List Tk}(h:LstIs w B O ts)(ho:Off O' w w')(hd:∀ k,O k->¬ O' k):LstIs w' B O ts:=by
 obtain⟨h1,h2,h3,h4,h5,h6,sv,mo,hB,hr,hs,hm⟩:=h;refine⟨h1,λk hk=>Nat.lt_of_lt_of_le (h2 k hk) ho.size,h3,h4,h5,λi hi=>⟨(h6 i hi).1,(ho.block _ (h2 _ (h6 i hi).1) (hd _ (h6 i hi).1)).trans (h6 i hi).2⟩,sv,mo,(ho.block B (h2 B h1) (hd B h1)).trans hB,own_off hr ho (λk hk=>hd k (hs k hk)),hs,?_⟩;rcases hm with h0 | ⟨mb,D,N,rfl,hO,hN,hmap,hD⟩
 ·exact .inl h0
 ·exact .inr ⟨mb,D,N,rfl,hO,hN,ziV hmap ho (hd mb hO),hD⟩
theorem lst_below{ts:List Tk}(h:LstIs w B O ts)(hb:Below w.heap.size w w'):LstIs w' B O ts:=lst_off (O':=λ_=>False) h (zbj hb) (λ_ _ h=>h)
theorem zmE{ts:List Tk}(h:LstIs w B O ts)(hO:∀ k,O k->O' k)(hl:∀ k,O' k->k<w.heap.size):LstIs w B O' ts:=by
 obtain⟨h1,h2,h3,h4,h5,h6,sv,mo,hB,hr,hs,hm⟩:=h;refine⟨hO _ h1,hl,h3,h4,h5,λi hi=>⟨hO _ (h6 i hi).1,(h6 i hi).2⟩,sv,mo,hB,hr,λk hk=>hO k (hs k hk),?_⟩;rcases hm with h0 | ⟨mb,D,N,rfl,ho,r⟩
 ·exact .inl h0
 ·exact .inr ⟨mb,D,N,rfl,hO _ ho,r⟩
theorem zgj(B:Nat)(O:Nat->Prop)(ts:List Tk)(w:World)(h:LstIs w B O ts) :
 Calls Tryz.prog 275 #[.pointer (some ⟨B,0,none⟩)] w λe w'=>e=.returned (.int .i64 ts.length)/\w'=w:=by
 obtain⟨sv,mo,hB,hr,-⟩:=h.lies;obtain⟨a,c,rfl⟩:=zaf hr;have c0:=cell_block hB 0 _ rfl;clear hB hr h;go_enter Tryz.func275,Tryz.ntmps275;go_wp2;go_ret;exact⟨rfl,rfl⟩
theorem zds(w:World)(a b:Nat):∃ q,(w.drewN a).drewN b=w.drewN q:=⟨a+b,by simp[World.drewN,Nat.add_assoc]⟩
theorem zpZ{ts:List Tk}(h:LstIs w B O ts)(hpos:0<ts.length):∃ g c m,w.heap[B]? = some (.cells #[.slice (some ⟨g,0,none⟩) ts.length c,.map m] 239 (0,0))/\w.ownsRow 0 246 1 (.slice (some ⟨g,0,none⟩) ts.length c) ts.length (ts.map zcO)/\O g/\g<w.heap.size/\g≠B/\ts.length<=c/\c<=maxLen /\
 ∀ i,i<ts.length->w.cell? ⟨g,i,none⟩=some (zcO (ts.getD i tk0)):=by
 obtain⟨sv,mo,hB,hr,hs,-⟩:=h.lies;obtain⟨g,c,rfl,-,hg,h1,h2⟩:=own_pos hr hpos;have n1:=zbd hB hr (by decide);refine⟨g,c,mo,hB,hr,hs g rfl,hg,λe=>n1 (by rw[e];rfl),h1,h2,λi hi=>?_⟩;rw[own_cell hr rfl i (by simpa using hi),List.getD_eq_getElem?_getD,List.getD_eq_getElem?_getD,List.getElem?_map,List.getElem?_eq_getElem hi];rfl
theorem zfd{ts:List Tk}(h:LstIs w B O ts)(i:Nat)(hi:i<ts.length) :
 w.cell? ⟨(ts.getD i tk0).at_,0,none⟩=some (.int .i64 (ts.getD i tk0).n)/\w.cell? ⟨(ts.getD i tk0).at_,1,none⟩=some (.int .i64 (ts.getD i tk0).wt)/\w.cell? ⟨(ts.getD i tk0).at_,2,none⟩=some (.int .i64 i):=by
 have hb:=(h.tasks i hi).2;exact⟨cell_block hb 0 _ rfl,cell_block hb 1 _ rfl,cell_block hb 2 _ rfl⟩
theorem zff(B:Nat)(O:Nat->Prop)(ts:List Tk)(i j:Nat)(hi:i<ts.length)(hj:j<ts.length)(w:World)(h:LstIs w B O ts)(hlen:ts.length<=1048576) :
 Calls Tryz.prog 276 #[.pointer (some ⟨B,0,none⟩),.int .i64 i,.int .i64 j] w λe w'=>e=.returned (.bool (lessT (ts.getD i tk0) (ts.getD j tk0)))/\∃ q,w'=w.drewN q:=by
 obtain⟨g,c,m,hB,-,-,-,-,hc1,hc2,hc⟩:=zpZ h (by omega);have c0:=cell_block hB 0 _ rfl;have ci:=hc i hi;have cj:=hc j hj;obtain⟨a0,a1,-⟩:=zfd h i hi;obtain⟨b0,b1,-⟩:=zfd h j hj;unfold zcO at ci cj;have hi':(i:Int)<ts.length:=by omega
 have hj':(j:Int)<ts.length:=by omega
 clear hB hc h;generalize ts.getD i tk0=x at *;generalize ts.getD j tk0=y at *;obtain⟨xa,xn,xw⟩:=x;obtain⟨ya,yn,yw⟩:=y;simp only at *;by_cases h1:xw<yw
 ·have g1:decide (xw<yw)=true:=by simpa using h1
  rw[show lessT ⟨xa,xn,xw⟩ ⟨ya,yn,yw⟩=true by simp[lessT,h1]];go_enter Tryz.func276,Tryz.ntmps276;go_wp2;go_quiet (fail);go_wp2;go_quiet (fail);go_wp2;go_ret;exact⟨rfl,zds _ _ _⟩
 ·have g1:decide (xw<yw)=false:=by simpa using h1
  by_cases h2:xw=yw
  ·have g2:(xw == yw)=true:=by simpa using h2
   by_cases h3:xn<yn
   ·have g3:decide (xn<yn)=true:=by simpa using h3
    rw[show lessT ⟨xa,xn,xw⟩ ⟨ya,yn,yw⟩=true by simp[lessT,h2,h3]];clear h2;go_enter Tryz.func276,Tryz.ntmps276;go_wp2;go_quiet (fail);go_wp2;go_quiet (fail);go_wp2;go_ret;exact⟨rfl,zds _ _ _⟩
   ·have g3:decide (xn<yn)=false:=by simpa using h3
    rw[show lessT ⟨xa,xn,xw⟩ ⟨ya,yn,yw⟩=false by simp[lessT,h2,h3]];clear h2;go_enter Tryz.func276,Tryz.ntmps276;go_wp2;go_quiet (fail);go_wp2;go_quiet (fail);go_wp2;go_ret;exact⟨rfl,zds _ _ _⟩
  ·have g2:(xw == yw)=false:=by simpa using h2
   rw[show lessT ⟨xa,xn,xw⟩ ⟨ya,yn,yw⟩=false by simp[lessT,h2];omega];clear h2;go_enter Tryz.func276,Tryz.ntmps276;go_wp2;go_quiet (fail);go_wp2;go_quiet (fail);go_wp2;go_ret;exact⟨rfl,zds _ _ _⟩
def zbi(ts:List Tk)(i j:Nat):List Tk:=(ts.set i (ts.getD j tk0)).set j (ts.getD i tk0)
theorem zoX(B g c:Nat)(n:Nat)(i j:Nat)(hi:i<n)(hj:j<n)(hij:¬ i=j)(x y:Nat)(hxy:¬ x=y)(hxg:¬ x=g)(hyg:¬ y=g)(w:World)
 (c0:w.cell? ⟨B,0,none⟩=some (.slice (some ⟨g,0,none⟩) n c)) (hgB:¬ g=B) (hxB:¬ x=B) (hyB:¬ y=B)
 (ci:w.cell? ⟨g,i,none⟩=some (.pointer (some ⟨x,0,none⟩))) (cj:w.cell? ⟨g,j,none⟩=some (.pointer (some ⟨y,0,none⟩)))
 (fi:w.frozen? ⟨g,i,none⟩=false) (fj:w.frozen? ⟨g,j,none⟩=false) (px:w.cell? ⟨x,2,none⟩=some (.int .i64 i)) (py:w.cell? ⟨y,2,none⟩=some (.int .i64 j)) (fx:w.frozen? ⟨x,2,none⟩=false) (fy:w.frozen? ⟨y,2,none⟩=false) :
 Calls Tryz.prog 279 #[.pointer (some ⟨B,0,none⟩),.int .i64 i,.int .i64 j] w λe w'=>e=.returned (.tuple #[])/\∃ q,w'=((((w.setCell ⟨g,i,none⟩ (.pointer (some ⟨y,0,none⟩))).setCell ⟨g,j,none⟩ (.pointer (some ⟨x,0,none⟩))).setCell ⟨y,2,none⟩ (.int .i64 i)).setCell ⟨x,2,none⟩ (.int .i64 j)).drewN q:=by
 have hi':(i:Int)<n:=by omega
 have hj':(j:Int)<n:=by omega
 have hij':¬ j=i:=λe=>hij e.symm;go_enter Tryz.func279,Tryz.ntmps279;go_wp2
 go_region
 all_goals
  go_wp2
  go_region
  go_wp2
  go_end0
  exact⟨rfl,2,rfl⟩
theorem zoY(B g c:Nat)(n:Nat)(i:Nat)(hi:i<n)(x:Nat)(hxg:¬ x=g)(w:World)
 (c0:w.cell? ⟨B,0,none⟩=some (.slice (some ⟨g,0,none⟩) n c)) (hgB:¬ g=B) (hxB:¬ x=B)
 (ci:w.cell? ⟨g,i,none⟩=some (.pointer (some ⟨x,0,none⟩)))
 (fi:w.frozen? ⟨g,i,none⟩=false) (px:w.cell? ⟨x,2,none⟩=some (.int .i64 i)) (fx:w.frozen? ⟨x,2,none⟩=false) :
 Calls Tryz.prog 279 #[.pointer (some ⟨B,0,none⟩),.int .i64 i,.int .i64 i] w λe w'=>e=.returned (.tuple #[])/\∃ q,w'=((((w.setCell ⟨g,i,none⟩ (.pointer (some ⟨x,0,none⟩))).setCell ⟨g,i,none⟩ (.pointer (some ⟨x,0,none⟩))).setCell ⟨x,2,none⟩ (.int .i64 i)).setCell ⟨x,2,none⟩ (.int .i64 i)).drewN q:=by
 have hi':(i:Int)<n:=by omega
 go_enter Tryz.func279,Tryz.ntmps279;go_wp2
 go_region
 all_goals
  go_wp2
  go_region
  go_wp2
  go_end0
  exact⟨rfl,2,rfl⟩
theorem tkD{ts:List Tk}{k:Nat}(h:k<ts.length):ts.getD k tk0=ts[k]:=by rw[List.getD_eq_getElem?_getD,List.getElem?_eq_getElem h];rfl
theorem zak(ts:List Tk)(i j:Nat):(zbi ts i j).length=ts.length:=by simp[zbi]
theorem zea(ts:List Tk)(i j:Nat)(hi:i<ts.length)(hj:j<ts.length):(zbi ts i j).Perm ts:=by
 unfold zbi;rw[tkD hi,tkD hj];exact List.set_set_perm hi hj
theorem zl5(ts:List Tk)(i j k:Nat)(hk:k<ts.length):(zbi ts i j).getD k tk0=if k=j then ts.getD i tk0 else if k=i then ts.getD j tk0 else ts.getD k tk0:=by
 have hl:k<((ts.set i (ts.getD j tk0)).set j (ts.getD i tk0)).length:=by simpa using hk
 show ((ts.set i (ts.getD j tk0)).set j (ts.getD i tk0)).getD k tk0=_;rw[tkD hl,List.getElem_set];by_cases h1:k=j
 ·rw[if_pos h1.symm,if_pos h1]
 ·rw[if_neg (λe=>h1 e.symm),if_neg h1,List.getElem_set];by_cases h2:k=i
  ·rw[if_pos h2.symm,if_pos h2]
  ·rw[if_neg (λe=>h2 e.symm),if_neg h2,tkD hk]
theorem zdU{ts:List Tk}(hn:(ts.map Tk.n).Nodup){t:Tk}(ht:t ∈ ts):zbz ts t.n=(t.at_:Int)+1:=by
 induction ts with
 | nil=>simp at ht
 | cons a ts ih =>
   simp only[List.map_cons,List.nodup_cons] at hn;unfold zbz;rw[List.find?_cons];by_cases h:a.n=t.n
   ·rcases List.mem_cons.1 ht with rfl | ht
    ·simp
    ·exact absurd (h▸List.mem_map_of_mem ht) hn.1
   ·have:(a.n == t.n)=false:=by simpa using h
    rw[this];rcases List.mem_cons.1 ht with rfl | ht
    ·exact absurd rfl h
    ·exact ih hn.2 ht
theorem zde{ts:List Tk}{n:Int}(h:n ∉ ts.map Tk.n):zbz ts n=0:=by
 unfold zbz;rw[List.find?_eq_none.2];intro t ht;simp only[beq_iff_eq];exact λe=>h (e▸List.mem_map_of_mem ht)
theorem zoa{ts ts':List Tk}(hp:ts'.Perm ts)(hn:(ts.map Tk.n).Nodup)(n:Int):zbz ts' n=zbz ts n:=by
 by_cases h:n ∈ ts.map Tk.n
 ·obtain⟨t,ht,rfl⟩:=List.mem_map.1 h;rw[zdU hn ht,zdU ((hp.map Tk.n).nodup_iff.2 hn) (hp.mem_iff.2 ht)]
 ·rw[zde h,zde (λh'=>h ((hp.map Tk.n).mem_iff.1 h'))]
theorem zik{ts:List Tk}(hb:(ts.map Tk.at_).Nodup){j:Nat}(hi:i<ts.length)(hj:j<ts.length)(h:(ts.getD i tk0).at_=(ts.getD j tk0).at_):i=j:=by
 rw[tkD hi,tkD hj] at h;have:=(List.nodup_iff_pairwise_ne.1 hb);rw[List.pairwise_iff_getElem] at this;rcases Nat.lt_trichotomy i j with hlt | heq | hgt
 ·exact absurd (by rw[List.getElem_map,List.getElem_map];exact h) (this i j (by simpa using hi) (by simpa using hj) hlt)
 ·exact heq
 ·exact absurd (by rw[List.getElem_map,List.getElem_map];exact h.symm) (this j i (by simpa using hj) (by simpa using hi) hgt)
theorem zcS{a:Nat}{x y:Array Value}{s t:TypeId}{f f':Nat × Nat}(ha:w.heap[a]? = some (.cells x s f))(hb:w.heap[b]? = some (.cells y t f'))(hne:s≠t):a≠b:=λe=>by
 subst e;rw[ha] at hb;simp only[Option.some.injEq,Obj.cells.injEq] at hb;exact hne hb.2.1
theorem ziy(B:Nat)(O:Nat->Prop)(ts:List Tk)(i j:Nat)(hi:i<ts.length)(hj:j<ts.length)(w:World)(h:LstIs w B O ts) :
 Calls Tryz.prog 279 #[.pointer (some ⟨B,0,none⟩),.int .i64 i,.int .i64 j] w λe w'=>e=.returned (.tuple #[])/\Off O w w'/\w'.heap.size=w.heap.size/\LstIs w' B O (zbi ts i j):=by
 obtain⟨g,c,m,hB,hr,hOg,hgl,hgB,hc1,hc2,hc⟩:=zpZ h (by omega);have hgcell:∃ cur,w.heap[g]? = some (.cells cur 246 (0,0)):=by
  rcases hr.2 with ⟨e,_⟩ | ⟨g',cap,cur,e,_,hh,_⟩
  ·simp at e
  ·simp only[Value.slice.injEq,Option.some.injEq,Addr.mk.injEq,and_true,true_and] at e;exact⟨cur,e.1▸hh⟩
 obtain⟨cur,hgc⟩:=hgcell;have tne:∀ k,k<ts.length->(ts.getD k tk0).at_≠g/\(ts.getD k tk0).at_≠B:=λk hk=>⟨zcS (h.tasks k hk).2 hgc (by decide),zcS (h.tasks k hk).2 hB (by decide)⟩;have key:∀ (W:World) (q:Nat),(i=j->W=(((w.setCell ⟨g,i,none⟩ (zcO (ts.getD j tk0))).setCell ⟨g,j,none⟩ (zcO (ts.getD i tk0))).setCell ⟨(ts.getD j tk0).at_,2,none⟩ (.int .i64 i)).setCell ⟨(ts.getD i tk0).at_,2,none⟩ (.int .i64 j)) ->
  W=(((w.setCell ⟨g,i,none⟩ (zcO (ts.getD j tk0))).setCell ⟨g,j,none⟩ (zcO (ts.getD i tk0))).setCell ⟨(ts.getD j tk0).at_,2,none⟩ (.int .i64 i)).setCell ⟨(ts.getD i tk0).at_,2,none⟩ (.int .i64 j) ->
  Off O w (W.drewN q)/\(W.drewN q).heap.size=w.heap.size/\LstIs (W.drewN q) B O (zbi ts i j):=by
  rintro W q - rfl
  have ho:Off O w ((((w.setCell ⟨g,i,none⟩ (zcO (ts.getD j tk0))).setCell ⟨g,j,none⟩ (zcO (ts.getD i tk0))).setCell ⟨(ts.getD j tk0).at_,2,none⟩ (.int .i64 i)).setCell ⟨(ts.getD i tk0).at_,2,none⟩ (.int .i64 j)) :=
   zaL (zaL (zaL (zaL (zaJ _ _) (p:=⟨g,i,none⟩) (.inl hOg) _) (p:=⟨g,j,none⟩) (.inl hOg) _) (p:=⟨(ts.getD j tk0).at_,2,none⟩) (.inl (h.tasks j hj).1) _) (p:=⟨(ts.getD i tk0).at_,2,none⟩) (.inl (h.tasks i hi).1) _
  have hs:((((w.setCell ⟨g,i,none⟩ (zcO (ts.getD j tk0))).setCell ⟨g,j,none⟩ (zcO (ts.getD i tk0))).setCell ⟨(ts.getD j tk0).at_,2,none⟩ (.int .i64 i)).setCell ⟨(ts.getD i tk0).at_,2,none⟩ (.int .i64 j)).heap.size=w.heap.size:=by simp
  have blk:∀ k,k≠g->k≠(ts.getD i tk0).at_->k≠(ts.getD j tk0).at_->((((w.setCell ⟨g,i,none⟩ (zcO (ts.getD j tk0))).setCell ⟨g,j,none⟩ (zcO (ts.getD i tk0))).setCell ⟨(ts.getD j tk0).at_,2,none⟩ (.int .i64 i)).setCell ⟨(ts.getD i tk0).at_,2,none⟩ (.int .i64 j)).heap[k]? = w.heap[k]?:=λk h1 h2 h3 =>
   (Below.heap_setCell _ _ _ k h2).trans ((Below.heap_setCell _ _ _ k h3).trans ((Below.heap_setCell _ _ _ k h1).trans (Below.heap_setCell _ _ _ k h1)))
  have hperm:=zea ts i j hi hj;have s1:=hr.stored i (zcO (ts.getD j tk0));have s2:=s1.1.stored j (zcO (ts.getD i tk0));have hmap:(zbi ts i j).map zcO=((ts.map zcO).set i (zcO (ts.getD j tk0))).set j (zcO (ts.getD i tk0)):=by simp[zbi]
  have hrow:((((w.setCell ⟨g,i,none⟩ (zcO (ts.getD j tk0))).setCell ⟨g,j,none⟩ (zcO (ts.getD i tk0))).setCell ⟨(ts.getD j tk0).at_,2,none⟩ (.int .i64 i)).setCell ⟨(ts.getD i tk0).at_,2,none⟩ (.int .i64 j)).ownsRow 0 246 1 (.slice (some ⟨g,0,none⟩) ts.length c) ts.length ((zbi ts i j).map zcO):=by
   rw[hmap];refine own_off (O:=λk=>k=(ts.getD i tk0).at_\/k=(ts.getD j tk0).at_) s2.1 (zaL (O:=λk=>k=(ts.getD i tk0).at_\/k=(ts.getD j tk0).at_) (zaL (zaJ _ _) (p:=⟨(ts.getD j tk0).at_,2,none⟩) (.inl (.inr rfl)) _) (p:=⟨(ts.getD i tk0).at_,2,none⟩) (.inl (.inl rfl)) _) (λk hk e=>?_);simp only[Value.ownBlock,Option.some.injEq] at hk;rcases e with e | e
   ·exact(tne i hi).1 (by omega)
   ·exact(tne j hj).1 (by omega)
  have hbi:=(h.tasks i hi).2;have hbj:=(h.tasks j hj).2;refine⟨za7 ho q,hs,⟨h.own,λk hk=>Nat.lt_of_lt_of_le (h.lt k hk) ho.size,λt ht=>h.nums t (hperm.mem_iff.1 ht),(hperm.map Tk.n).nodup_iff.2 h.apart,(hperm.map Tk.at_).nodup_iff.2 h.blocks,?_,?_⟩⟩
  ·intro k hk;rw[zak] at hk;rw[zl5 ts i j k hk];show _/\((((w.setCell ⟨g,i,none⟩ (zcO (ts.getD j tk0))).setCell ⟨g,j,none⟩ (zcO (ts.getD i tk0))).setCell ⟨(ts.getD j tk0).at_,2,none⟩ (.int .i64 i)).setCell ⟨(ts.getD i tk0).at_,2,none⟩ (.int .i64 j)).heap[_]? = _;by_cases h1:k=j
   ·subst h1;rw[if_pos rfl];refine⟨(h.tasks i hi).1,?_⟩;by_cases hij:i=k
    ·subst hij;have e1:(((w.setCell ⟨g,i,none⟩ (zcO (ts.getD i tk0))).setCell ⟨g,i,none⟩ (zcO (ts.getD i tk0))).setCell ⟨(ts.getD i tk0).at_,2,none⟩ (.int .i64 i)).heap[(ts.getD i tk0).at_]? = _:=block_set (i:=2) ((Below.heap_setCell _ _ _ _ (tne i hi).1).trans ((Below.heap_setCell _ _ _ _ (tne i hi).1).trans hbi)) (.int .i64 i);exact block_set (i:=2) e1 (.int .i64 i)
    ·have hne:(ts.getD i tk0).at_≠(ts.getD k tk0).at_:=λe=>hij (zik h.blocks hi hk e);exact block_set (i:=2) ((Below.heap_setCell _ _ _ _ hne).trans ((Below.heap_setCell _ _ _ _ (tne i hi).1).trans ((Below.heap_setCell _ _ _ _ (tne i hi).1).trans hbi))) (.int .i64 k)
   ·rw[if_neg h1];by_cases h2:k=i
    ·subst h2;rw[if_pos rfl];refine⟨(h.tasks j hj).1,?_⟩;have hne:(ts.getD j tk0).at_≠(ts.getD k tk0).at_:=λe=>h1 (zik h.blocks hj hk e).symm;exact(Below.heap_setCell _ _ _ _ hne).trans (block_set (i:=2) ((Below.heap_setCell _ _ _ _ (tne j hj).1).trans ((Below.heap_setCell _ _ _ _ (tne j hj).1).trans hbj)) (.int .i64 k))
    ·rw[if_neg h2];exact⟨(h.tasks k hk).1,(blk _ (tne k hk).1 (λe=>h2 (zik h.blocks hk hi e)) (λe=>h1 (zik h.blocks hk hj e))).trans (h.tasks k hk).2⟩
  ·obtain⟨sv,mo,hB',hr',hs',hm'⟩:=h.lies;rw[hB] at hB';simp only[Option.some.injEq,Obj.cells.injEq,and_true] at hB';have e1:Value.slice (some ⟨g,0,none⟩) ts.length c=sv:=by have:=congrArg (λa:Array Value=>a[0]?) hB';simpa using this
   have e2:m=mo:=by have:=congrArg (λa:Array Value=>a[1]?) hB';simpa using this
   subst e1 e2;refine⟨.slice (some ⟨g,0,none⟩) ts.length c,m,(blk B (λe=>hgB e.symm) (λe=>(tne i hi).2 e.symm) (λe=>(tne j hj).2 e.symm)).trans hB,?_,hs',?_⟩
   ·rw[zak];exact hrow
   ·rcases hm' with ⟨e,h0⟩ | ⟨mb,D,N,rfl,hO,hN,hmp,hT,hS,hD⟩
    ·subst h0;simp at hi
    ·refine .inr ⟨mb,D,N,rfl,hO,hN,?_,hT,by rw[zak];exact hS,λn=>?_⟩
     ·have n1:=zb1 hgc hmp;have n2:=zb1 hbi hmp;have n3:=zb1 hbj hmp;exact(((hmp.setCell (a:=⟨g,i,none⟩) n1 _).setCell (a:=⟨g,j,none⟩) n1 _).setCell (a:=⟨(ts.getD j tk0).at_,2,none⟩) n3 _).setCell (a:=⟨(ts.getD i tk0).at_,2,none⟩) n2 _
     ·rw[(hD n).1,(hD n).2,zoa hperm h.apart];refine⟨?_,rfl⟩;rw[decide_eq_decide];exact((hperm.map Tk.n).mem_iff).symm
 have c0:=cell_block hB 0 _ rfl;have ti:=zfd h i hi;have tj:=zfd h j hj;have fr:∀ k,k<ts.length->w.frozen? ⟨(ts.getD k tk0).at_,2,none⟩=false:=λk hk=>frozen_block (h.tasks k hk).2 2;by_cases hij:i=j
 ·subst hij;refine(zoY B g c ts.length i hi (ts.getD i tk0).at_ (tne i hi).1 w c0 hgB (tne i hi).2 (hc i hi) (hr.frozenAt _) ti.2.2 (fr i hi)).mono ?_;rintro e w' ⟨rfl,q,rfl⟩;exact⟨rfl,key _ q (λ_=>rfl) rfl⟩
 ·refine(zoX B g c ts.length i j hi hj hij (ts.getD i tk0).at_ (ts.getD j tk0).at_ (λe=>hij (zik h.blocks hi hj e)) (tne i hi).1 (tne j hj).1 w c0 hgB (tne i hi).2 (tne j hj).2 (hc i hi) (hc j hj) (hr.frozenAt _) (hr.frozenAt _) ti.2.2 tj.2.2 (fr i hi) (fr j hj)).mono ?_;rintro e w' ⟨rfl,q,rfl⟩;exact⟨rfl,key _ q (λh=>absurd h hij) rfl⟩
theorem hptr:(Tryz.prog.info? 246).map (λi=>(i.zero,i.size,i.bytes))=some (some (.pointer none),1,8):=by kernel_rfl
theorem zfW{ts:List Tk}{t:Tk}(h:t.n ∉ ts.map Tk.n)(n:Int):zbz (ts ++ [t]) n=if n=t.n then(t.at_:Int)+1 else zbz ts n:=by
 unfold zbz;rw[List.find?_append];by_cases hn:n=t.n
 ·subst hn;rw[if_pos rfl,List.find?_eq_none.2]
  ·simp
  ·intro x hx;simp only[beq_iff_eq];exact λe=>h (e▸List.mem_map_of_mem hx)
 ·rw[if_neg hn];have:([t].find? λt=>t.n == n)=none:=by simp;omega
  rw[this]
  cases ts.find? (λt=>t.n == n) <;> rfl
theorem zcf{ts:List Tk}{t:Tk}(hi:i<(ts ++ [t]).length):(ts ++ [t]).getD i tk0=if i=ts.length then t else ts.getD i tk0:=by
 rw[List.length_append,List.length_singleton] at hi;by_cases h:i=ts.length
 ·subst h;simp
 ·rw[if_neg h,List.getD_eq_getElem?_getD,List.getD_eq_getElem?_getD,List.getElem?_append_left (by omega)]
theorem zjo(v:Value)(w:World):(Instr.typeAssert (.iface 246 v) 20 246 false).run Tryz.prog w=.ok v w:=by kernel_rfl
theorem zmF{W W1 W3:World}{cap T:Nat}{ts:List Tk}{n wt:Int}{sv:Value}{o:Obj}
 (h:LstIs w B O ts) (hTO:¬ O T) (hTl:T<w.heap.size) (hn:0<=n/\n<1048576 /\ -9223372036854775808<=wt/\wt<=9223372036854775807) (hnew:n ∉ ts.map Tk.n)
 (hoW:Off (λk=>k=B\/k=T) w W) (hB:W.heap[B]? = some (.cells #[sv,.map (some mb)] 239 (0,0))) (hr:W.ownsRow 0 246 1 sv ts.length (ts.map zcO)) (hsv:∀ k,sv.ownBlock=some k->O k)
 (hT:W.heap[T]? = some (.cells #[.int .i64 n,.int .i64 wt,.int .i64 ts.length] 251 (0,0)))
 (hmb:O mb\/w.heap.size<=mb) (hN:N<1048576) (hm:W.ownsMap (H:=Unit) Tryz.prog 3 zfy mb N D) (hTd:Tidy D) (hSz:Maps.size D=ts.length)
 (hD:∀ n,Maps.has D (.int .i64 n)=decide (n ∈ ts.map Tk.n)/\D.atKey (.int .i64 n) (.lit (.int .i64 0))=.lit (.int .i64 (zbz ts n)))
 (hown:W1.ownsRow 0 246 1 (.slice (some ⟨g,0,none⟩) (ts.length+1) cap) (ts.length+1) (ts.map zcO ++ [.pointer (some ⟨T,0,none⟩)])) (hg:(W.alloc o).grownBy W1 sv.ownBlock) (hgv:sv.ownBlock=some g\/g=W.heap.size+1) :
 ((W1.cell? ⟨B, 0, none⟩ = some sv /\ W1.frozen? ⟨B, 0, none⟩ = false) /\ (W1.setCell ⟨B, 0, none⟩ (.slice (some ⟨g, 0, none⟩) (ts.length + 1) cap)).cell? ⟨B, 1, none⟩ = some (.map (some mb)) /\
   (W1.setCell ⟨B,0,none⟩ (.slice (some ⟨g,0,none⟩) (ts.length+1) cap)).cell? ⟨T,0,none⟩=some (.int .i64 n) /\
   (W1.setCell ⟨B,0,none⟩ (.slice (some ⟨g,0,none⟩) (ts.length+1) cap)).ownsMap (H:=Unit) Tryz.prog 3 zfy mb N D) /\
 (W3.ownsMap (H:=Unit) Tryz.prog 3 zfy mb (N+1) (D.put (.int .i64 n) (.lit (.int .i64 ((T:Int)+1))))->(W1.setCell ⟨B,0,none⟩ (.slice (some ⟨g,0,none⟩) (ts.length+1) cap)).grownBy W3 (some mb) ->
   Off (λk=>O k\/k=T) w W3/\LstIs W3 B (λk=>(O k\/k=T)\/w.heap.size<=k/\k<W3.heap.size) (ts ++ [⟨T,n,wt⟩])):=by
 have n1:=zbd hB hr (by decide);have n2:=zb1 hB hm;have n3:=zgJ hr hm;have n6:=zbd hT hr (by decide);have n7:=zb1 hT hm;have nTB:T≠B:=λe=>hTO (e▸h.own);have hBl:=lt_of_some hB;have hTlW:=lt_of_some hT;have hml:=hm.lt;have hB1:W1.heap[B]? = some (.cells #[sv,.map (some mb)] 239 (0,0)):=(hg.block B (by simp;omega) (λe=>n1 e.symm)).trans ((Below.heap_alloc W o B hBl).trans hB);have hT1:W1.heap[T]? = some (.cells #[.int .i64 n,.int .i64 wt,.int .i64 ts.length] 251 (0,0)):=(hg.block T (by simp;omega) (λe=>n6 e.symm)).trans ((Below.heap_alloc W o T hTlW).trans hT);have hm1:W1.ownsMap (H:=Unit) Tryz.prog 3 zfy mb N D:=(hm.alloc o).kept hg (λe=>n3 e.symm);have n4:=zbd hB1 hown (by decide);have hB2:=block_set (i:=0) hB1 (.slice (some ⟨g,0,none⟩) (ts.length+1) cap);have hT2:(W1.setCell ⟨B,0,none⟩ (.slice (some ⟨g,0,none⟩) (ts.length+1) cap)).heap[T]? = _:=(Below.heap_setCell W1 ⟨B,0,none⟩ _ T nTB).trans hT1;have hm2:=hm1.setCell (a:=⟨B,0,none⟩) n2 (.slice (some ⟨g,0,none⟩) (ts.length+1) cap);have hoff1:Off (λk=>O k\/k=T) w W1:=zc9 (zdL (zmv hoW (λi hi=>by rcases hi with rfl | rfl;exact .inl (.inl h.own);exact .inl (.inr rfl))) o) hg (λk hk=>.inl (.inl (hsv k hk)));have hoff2:=zaL hoff1 (p:=⟨B,0,none⟩) (.inl (.inl h.own)) (.slice (some ⟨g,0,none⟩) (ts.length+1) cap);refine⟨⟨⟨cell_block hB1 0 _ rfl,frozen_block hB1 0⟩,cell_block hB2 1 _ rfl,cell_block hT2 0 _ rfl,hm2⟩,λhm3 hg3=>?_⟩;have hoff3:=zc9 hoff2 hg3 (λk hk=>by cases hk;rcases hmb with h | h;exact .inl (.inl h);exact .inr h)
 have hown2:(W1.setCell ⟨B,0,none⟩ (.slice (some ⟨g,0,none⟩) (ts.length+1) cap)).ownsRow 0 246 1 (.slice (some ⟨g,0,none⟩) (ts.length+1) cap) (ts.length+1) (ts.map zcO ++ [.pointer (some ⟨T,0,none⟩)]) :=
  own_off (O:=λk=>k=B) hown (zaL (O:=λk=>k=B) (zaJ _ _) (p:=⟨B,0,none⟩) (.inl rfl) _) (λk hk e=>n4 (e▸hk))
 have n5:=zgJ hown2 hm2;have hown3:=hown2.kept hg3 (zlv (λk hk=>by cases hk;exact n5));have hgl:g<W3.heap.size:=(hown3.lt g rfl).2;have hT3:W3.heap[T]? = some (.cells #[.int .i64 n,.int .i64 wt,.int .i64 ts.length] 251 (0,0)):=(hg3.block T (lt_of_some hT2) (λe=>by cases e;exact n7 rfl)).trans hT2;have htask:∀ i,i<ts.length->W3.heap[(ts.getD i tk0).at_]? = some (.cells #[.int .i64 (ts.getD i tk0).n,.int .i64 (ts.getD i tk0).wt,.int .i64 i] 251 (0,0)):=λi hi=>by
  have hb:=(h.tasks i hi).2;have hO:=(h.tasks i hi).1;have hlw:=lt_of_some hb;have e0:(ts.getD i tk0).at_≠T:=λe=>hTO (e▸hO);have e1:(ts.getD i tk0).at_≠B:=by
   obtain⟨sv',mo',hB',-⟩:=h.lies;exact zcS hb hB' (by decide)
  have hW:W.heap[(ts.getD i tk0).at_]? = _:=(hoW.block _ hlw (λe=>by rcases e with e | e;exact e1 e;exact e0 e)).trans hb;have m1:=zbd hW hr (by decide);have m2:=zb1 hW hm;have hW1:W1.heap[(ts.getD i tk0).at_]? = _:=(hg.block _ (Nat.lt_of_lt_of_le (lt_of_some hW) (by simp)) (λe=>m1 e.symm)).trans ((Below.heap_alloc W o _ (lt_of_some hW)).trans hW);have hW2:(W1.setCell ⟨B,0,none⟩ (.slice (some ⟨g,0,none⟩) (ts.length+1) cap)).heap[(ts.getD i tk0).at_]? = _:=(Below.heap_setCell W1 ⟨B,0,none⟩ _ _ e1).trans hW1;exact(hg3.block _ (lt_of_some hW2) (λe=>by cases e;exact m2 rfl)).trans hW2
 refine⟨hoff3,.inl (.inl h.own),?_,?_,?_,?_,?_,.slice (some ⟨g,0,none⟩) (ts.length+1) cap,some mb,?_,?_,?_,.inr ⟨mb,D.put (.int .i64 n) (.lit (.int .i64 ((T:Int)+1))),N+1,rfl,?_,by omega,hm3,hTd.put (show WideAt.IsKeyLit (.int .i64 n) from trivial) _,?_,?_⟩⟩
 ·rintro k ((hk | hk) | hk)
  ·have:=h.lt k hk;have:=hoff3.size;omega
  ·have:=hoff3.size;omega
  ·exact hk.2
 ·intro t ht;rcases List.mem_append.1 ht with ht | ht
  ·exact h.nums t ht
  ·simp at ht;subst ht;exact hn
 ·rw[List.map_append,List.nodup_append];exact⟨h.apart,by simp,λa ha b hb e=>hnew (by simp at hb;rw[<- hb,<- e];exact ha)⟩
 ·rw[List.map_append,List.nodup_append];refine⟨h.blocks,by simp,λa ha b hb e=>?_⟩;simp at hb;subst hb e;obtain⟨t,ht,rfl⟩:=List.mem_map.1 ha;obtain⟨i,hi,rfl⟩:=List.mem_iff_getElem.1 ht;rw[<- tkD hi] at hTO;exact hTO (h.tasks i hi).1
 ·intro i hi;rw[zcf hi];by_cases he:i=ts.length
  ·subst he;rw[if_pos rfl];exact⟨.inl (.inr rfl),hT3⟩
  ·rw[if_neg he];have hi':i<ts.length:=by rw[List.length_append,List.length_singleton] at hi;omega
   exact⟨.inl (.inl (h.tasks i hi').1),htask i hi'⟩
 ·exact(hg3.block B (lt_of_some hB2) (λe=>by cases e;exact n2 rfl)).trans hB2
 ·simpa [zcO] using hown3
 ·intro k hk;simp only[Value.ownBlock,Option.some.injEq] at hk;subst hk;rcases hgv with h | h
  ·exact .inl (.inl (hsv _ h))
  ·exact .inr ⟨by have:=hoW.size;omega,hgl⟩
 ·rcases hmb with h | h
  ·exact .inl (.inl h)
  ·exact .inr ⟨h,hm3.lt⟩
 ·rw[size_put hTd,(hD n).1,hSz];simp[hnew]
 ·intro x;by_cases hx:x=n
  ·subst hx;have hkl:WideAt.IsKeyLit (.int .i64 x):=trivial;rw[has_put_same hm.isMap hkl,atKey_put_same hm.isMap hkl,zfW hnew,if_pos rfl];simp
  ·have hne:(Lit.int .i64 x)≠.int .i64 n:=by simpa using hx
   rw[has_put_other hne,atKey_put_other hne,(hD x).1,(hD x).2,zfW hnew,if_neg hx];simp[hx]
theorem zno(B T:Nat)(O:Nat->Prop)(ts:List Tk)(n wt:Int)(hn:0<=n/\n<1048576 /\ -9223372036854775808<=wt/\wt<=9223372036854775807)(hnew:n ∉ ts.map Tk.n)(hlen:ts.length<1048576)(w:World)
 (h:LstIs w B O ts) (hTO:¬ O T) (hT:w.heap[T]? = some (.cells #[.int .i64 n,.int .i64 wt,.int .i64 0] 251 (0,0))) (sv:Value) (mb N:Nat) (D:DataW Unit)
 (hB:w.heap[B]? = some (.cells #[sv,.map (some mb)] 239 (0,0))) (hr:w.ownsRow 0 246 1 sv ts.length (ts.map zcO)) (hsv:∀ k,sv.ownBlock=some k->O k)
 (hmb:O mb) (hN:N<1048576) (hm:w.ownsMap (H:=Unit) Tryz.prog 3 zfy mb N D) (hTd:Tidy D) (hSz:Maps.size D=ts.length)
 (hD:∀ n,Maps.has D (.int .i64 n)=decide (n ∈ ts.map Tk.n)/\D.atKey (.int .i64 n) (.lit (.int .i64 0))=.lit (.int .i64 (zbz ts n))) :
 Calls Tryz.prog 278 #[.pointer (some ⟨B,0,none⟩),.iface 246 (.pointer (some ⟨T,0,none⟩))] w λe w'=>e=.returned (.tuple #[])/\Off (λk=>O k\/k=T) w w'/\LstIs w' B (λk=>(O k\/k=T)\/w.heap.size<=k/\k<w'.heap.size) (ts ++ [⟨T,n,wt⟩]):=by
 obtain⟨i0,hi,hz0,hz1,hz2⟩:=zah hptr;have hlt:=lt_of_some hB;have hTl:=lt_of_some hT;have nTB:¬ T=B:=λe=>hTO (e▸h.own);have c0:=cell_block hB 0 _ rfl;have c1:=cell_block hB 1 _ rfl;have f0:=frozen_block hB 0;have f1:=frozen_block hB 1;have ct:=cell_block hT 2 _ rfl;have ft:=frozen_block hT 2;have qm:∀ (w:World) (r:Option Nat),(binOp .eql 235 (.map r) (.map none)).run Tryz.prog w=.ok (.bool r.isNone) w:=λw r=>run_eql_map_nil w _ _ _ r Tryz.underlying235;have qk:=λw:World=>run_makeMap (P:=Tryz.prog) 235 w;have qa:=λ(v:Value) (w:World)=>zjo v w;have hB':(w.setCell ⟨T,2,none⟩ (.int .i64 ts.length)).heap[B]? = _:=(Below.heap_setCell w ⟨T,2,none⟩ (.int .i64 ts.length) B (λe=>nTB e.symm)).trans hB;have hT':=block_set (i:=2) hT (.int .i64 ts.length);have nr:=zbd hT hr (by decide);have nm:=zb1 hT hm;have hr':World.ownsRow (w.setCell ⟨T,2,none⟩ (.int .i64 ts.length)) 0 246 1 sv ts.length (ts.map zcO):=own_off (O:=λk=>k=T) hr (zaL (O:=λk=>k=T) (zaJ _ _) (p:=⟨T,2,none⟩) (.inl rfl) _) (λk hk e=>nr (e▸hk));have hm':=hm.setCell (a:=⟨T,2,none⟩) nm (.int .i64 ts.length);have Hg:=zaa (λW1 W3 g cap=>zmF (w:=w) (W:=w.setCell ⟨T,2,none⟩ (.int .i64 ts.length)) (W1:=W1) (W3:=W3) (g:=g) (cap:=cap) (mb:=mb) (sv:=sv) (o:=.cells #[.pointer (some ⟨T,0,none⟩)] 246) h hTO hTl hn hnew (zaL (O:=λk=>k=B\/k=T) (zaJ _ _) (p:=⟨T,2,none⟩) (.inl (.inr rfl)) _) hB' hr' hsv hT' (.inl hmb) hN hm' hTd hSz hD);have Ho:=zaa (hr':World.ownsRow (w.setCell ⟨T,2,none⟩ (.int .i64 ts.length)) 0 246 1 sv ts.length (ts.map zcO));obtain⟨va,vc,rfl⟩:=zaf hr;have Hk:=zaa (keyOf_int_mk Tryz.underlying3 (WalkArith.wf_i64 (n:=n) (by omega)));clear hB hr hsv h hT hnew hB' hT' hr' hm' hm hTd hSz hD hmb;have hn':(ts.length:Int)<1048576:=by omega
 go_enter Tryz.func278,Tryz.ntmps278;go_wp2_with (at_builtin;refine wpList_append_lies _ rfl _ _ 234 rfl 0 246 i0 (.pointer none) 1 8 Tryz.underlying234 hi hz0 hz1 hz2 rfl (by decide) _ ts.length (ts.map zcO) rfl ((uh Ho).alloc _) ⟨w.heap.size,0,none⟩ 1 1 [.pointer (some ⟨T,0,none⟩)] rfl rfl ?c1 ?c2 (by decide) ?c3 ?c4 (Nat.zero_le _) (w.heap.size+1) ?c5 ?_)
 case c1 =>
  have h:=World.news_of_block (MapKept.heap_alloc (w.setCell ⟨T,2,none⟩ (.int .i64 ts.length)) (.cells #[.pointer (some ⟨T,0,none⟩)] 246)).1;simpa using h
 case c2=>simp[Value.oneCell']
 case c3=>unfold maxLen;omega
 case c4=>omega
 case c5=>simp
 intro g cap W1 hown hgr hgv hgl;obtain⟨⟨⟨d0,e0⟩,d1,dt,hm2⟩,-⟩:=uh Hg W1 W1 g cap hown hgr (by simpa using hgv);obtain⟨W3,hrun,hm3,hg3⟩:=(hm2.drew).update zke Tryz.underlying235 (by unfold maxLen;omega) (uh Hk) (val:=.pointer (some ⟨T,0,none⟩)) (d:=.lit (.int .i64 ((T:Int)+1))) (ps:=[]) rfl;have Hh:=zaa ((uh Hg W1 W3 g cap hown hgr (by simpa using hgv)).2 hm3 ⟨hg3.os,hg3.tape,hg3.output,hg3.size,hg3.block⟩);clear hown hgr hm2 hm3 hg3 c0 c1 f0 f1 ct ft;go_wp2
 go_region
 all_goals
  go_wp2
  go_end0
  exact⟨rfl,uh Hh⟩
theorem zoP(B T:Nat)(O:Nat->Prop)(ts:List Tk)(n wt:Int)(hn:0<=n/\n<1048576 /\ -9223372036854775808<=wt/\wt<=9223372036854775807)(hnew:n ∉ ts.map Tk.n)(hlen:ts.length<1048576)(w:World)
 (h:LstIs w B O ts) (hTO:¬ O T) (hT:w.heap[T]? = some (.cells #[.int .i64 n,.int .i64 wt,.int .i64 0] 251 (0,0))) (sv:Value) (hks:ts=[])
 (hB:w.heap[B]? = some (.cells #[sv,.map none] 239 (0,0))) (hr:w.ownsRow 0 246 1 sv ts.length (ts.map zcO)) (hsv:∀ k,sv.ownBlock=some k->O k) :
 Calls Tryz.prog 278 #[.pointer (some ⟨B,0,none⟩),.iface 246 (.pointer (some ⟨T,0,none⟩))] w λe w'=>e=.returned (.tuple #[])/\Off (λk=>O k\/k=T) w w'/\LstIs w' B (λk=>(O k\/k=T)\/w.heap.size<=k/\k<w'.heap.size) (ts ++ [⟨T,n,wt⟩]):=by
 obtain⟨i0,hi,hz0,hz1,hz2⟩:=zah hptr;have hlt:=lt_of_some hB;have hTl:=lt_of_some hT;have nTB:¬ T=B:=λe=>hTO (e▸h.own);have c0:=cell_block hB 0 _ rfl;have c1:=cell_block hB 1 _ rfl;have f0:=frozen_block hB 0;have f1:=frozen_block hB 1;have ct:=cell_block hT 2 _ rfl;have ft:=frozen_block hT 2;have qm:∀ (w:World) (r:Option Nat),(binOp .eql 235 (.map r) (.map none)).run Tryz.prog w=.ok (.bool r.isNone) w:=λw r=>run_eql_map_nil w _ _ _ r Tryz.underlying235;have qk:=λw:World=>run_makeMap (P:=Tryz.prog) 235 w;have qa:=λ(v:Value) (w:World)=>zjo v w;have hs1:((w.setCell ⟨B,1,none⟩ (.map (some w.heap.size))).setCell ⟨T,2,none⟩ (.int .i64 ts.length)).heap.size=w.heap.size:=by simp
 have hB':(((w.setCell ⟨B,1,none⟩ (.map (some w.heap.size))).setCell ⟨T,2,none⟩ (.int .i64 ts.length)).alloc (.map #[] 0)).heap[B]? = some (.cells #[sv,.map (some w.heap.size)] 239 (0,0)) :=
  (Below.heap_alloc _ _ B (by omega)).trans ((Below.heap_setCell _ ⟨T,2,none⟩ _ B (λe=>nTB e.symm)).trans (block_set (i:=1) hB (.map (some w.heap.size))))
 have hT':(((w.setCell ⟨B,1,none⟩ (.map (some w.heap.size))).setCell ⟨T,2,none⟩ (.int .i64 ts.length)).alloc (.map #[] 0)).heap[T]? = some (.cells #[.int .i64 n,.int .i64 wt,.int .i64 ts.length] 251 (0,0)) :=
  (Below.heap_alloc _ _ T (by omega)).trans (block_set (i:=2) ((Below.heap_setCell w ⟨B,1,none⟩ _ T nTB).trans hT) (.int .i64 ts.length))
 have nr:=zbd hT hr (by decide);have nb:=zbd hB hr (by decide)
 have hr':World.ownsRow (((w.setCell ⟨B,1,none⟩ (.map (some w.heap.size))).setCell ⟨T,2,none⟩ (.int .i64 ts.length)).alloc (.map #[] 0)) 0 246 1 sv ts.length (ts.map zcO) :=
  (own_off (O:=λk=>k=B\/k=T) hr (zaL (O:=λk=>k=B\/k=T) (zaL (zaJ _ _) (p:=⟨B,1,none⟩) (.inl (.inl rfl)) _) (p:=⟨T,2,none⟩) (.inl (.inr rfl)) _) (λk hk e=>by rcases e with e | e;exact nb (e▸hk);exact nr (e▸hk))).alloc _
 have hm':World.ownsMap (H:=Unit) (((w.setCell ⟨B,1,none⟩ (.map (some w.heap.size))).setCell ⟨T,2,none⟩ (.int .i64 ts.length)).alloc (.map #[] 0)) Tryz.prog 3 zfy w.heap.size 0 (.map []):=by
  have h:=World.ownsMap_made (H:=Unit) ((w.setCell ⟨B,1,none⟩ (.map (some w.heap.size))).setCell ⟨T,2,none⟩ (.int .i64 ts.length)) Tryz.prog 3 zfy;rw[hs1] at h;exact h
 have hD':∀ n,Maps.has (.map []:DataW Unit) (.int .i64 n)=decide (n ∈ ts.map Tk.n)/\(DataW.map []:DataW Unit).atKey (.int .i64 n) (.lit (.int .i64 0))=.lit (.int .i64 (zbz ts n)):=λx=>by
  subst hks;exact⟨rfl,rfl⟩
 have hS':Maps.size (.map []:DataW Unit)=ts.length:=by subst hks;rfl
 have Hg:=zaa (λW1 W3 g cap=>zmF (w:=w) (W:=((w.setCell ⟨B,1,none⟩ (.map (some w.heap.size))).setCell ⟨T,2,none⟩ (.int .i64 ts.length)).alloc (.map #[] 0)) (W1:=W1) (W3:=W3) (g:=g) (cap:=cap) (mb:=w.heap.size) (sv:=sv) (o:=.cells #[.pointer (some ⟨T,0,none⟩)] 246) h hTO hTl hn hnew (zdL (zaL (O:=λk=>k=B\/k=T) (zaL (zaJ _ _) (p:=⟨B,1,none⟩) (.inl (.inl rfl)) _) (p:=⟨T,2,none⟩) (.inl (.inr rfl)) _) _) hB' hr' hsv hT' (.inr (Nat.le_refl _)) (by decide) hm' tidy_empty hS' hD' );have Ho:=zaa (hr':World.ownsRow (((w.setCell ⟨B,1,none⟩ (.map (some w.heap.size))).setCell ⟨T,2,none⟩ (.int .i64 ts.length)).alloc (.map #[] 0)) 0 246 1 sv ts.length (ts.map zcO));obtain⟨va,vc,rfl⟩:=zaf hr;have Hk:=zaa (keyOf_int_mk Tryz.underlying3 (WalkArith.wf_i64 (n:=n) (by omega)));clear hB hr hsv h hT hnew hB' hT' hr' hm' hD' hS' hks hs1;have hn':(ts.length:Int)<1048576:=by omega
 go_enter Tryz.func278,Tryz.ntmps278;go_wp2_with (at_builtin;refine wpList_append_lies _ rfl _ _ 234 rfl 0 246 i0 (.pointer none) 1 8 Tryz.underlying234 hi hz0 hz1 hz2 rfl (by decide) _ ts.length (ts.map zcO) rfl ((uh Ho).alloc _) ⟨w.heap.size+1,0,none⟩ 1 1 [.pointer (some ⟨T,0,none⟩)] rfl rfl ?c1 ?c2 (by decide) ?c3 ?c4 (Nat.zero_le _) (w.heap.size+1+1) ?c5 ?_)
 case c1 =>
  have h:=World.news_of_block (MapKept.heap_alloc (((w.setCell ⟨B,1,none⟩ (.map (some w.heap.size))).setCell ⟨T,2,none⟩ (.int .i64 ts.length)).alloc (.map #[] 0)) (.cells #[.pointer (some ⟨T,0,none⟩)] 246)).1;simpa using h
 case c2=>simp[Value.oneCell']
 case c3=>unfold maxLen;omega
 case c4=>omega
 case c5=>simp
 intro g cap W1 hown hgr hgv hgl;obtain⟨⟨⟨d0,e0⟩,d1,dt,hm2⟩,-⟩:=uh Hg W1 W1 g cap hown hgr (by simpa using hgv);obtain⟨W3,hrun,hm3,hg3⟩:=(hm2.drew).update zke Tryz.underlying235 (by unfold maxLen;omega) (uh Hk) (val:=.pointer (some ⟨T,0,none⟩)) (d:=.lit (.int .i64 ((T:Int)+1))) (ps:=[]) rfl;have Hh:=zaa ((uh Hg W1 W3 g cap hown hgr (by simpa using hgv)).2 hm3 ⟨hg3.os,hg3.tape,hg3.output,hg3.size,hg3.block⟩);clear hown hgr hm2 hm3 hg3 c0 c1 f0 f1 ct ft;go_wp2
 go_region
 all_goals
  go_wp2
  go_end0
  exact⟨rfl,uh Hh⟩
theorem zpX{H:Type}{P:Program}{k:TypeId}{R:Value->Option (DataW H × List MemPlace)}{n:Nat}{D:DataW H}(h:w.ownsMap P k R b n D):w.ownsMap P k R b (Maps.size D) D:=by
 obtain⟨es,clock,hb,F,hs,rfl⟩:=h;exact⟨es,clock,hb,F,by simp[Maps.size,length_sorted],rfl⟩
theorem zoQ(B T:Nat)(O:Nat->Prop)(ts:List Tk)(n wt:Int)(hn:0<=n/\n<1048576 /\ -9223372036854775808<=wt/\wt<=9223372036854775807)(hnew:n ∉ ts.map Tk.n)(hlen:ts.length<1048576)(w:World)
 (h:LstIs w B O ts) (hTO:¬ O T) (hT:w.heap[T]? = some (.cells #[.int .i64 n,.int .i64 wt,.int .i64 0] 251 (0,0))) :
 Calls Tryz.prog 278 #[.pointer (some ⟨B,0,none⟩),.iface 246 (.pointer (some ⟨T,0,none⟩))] w λe w'=>e=.returned (.tuple #[])/\Off (λk=>O k\/k=T) w w'/\LstIs w' B (λk=>(O k\/k=T)\/w.heap.size<=k/\k<w'.heap.size) (ts ++ [⟨T,n,wt⟩]):=by
 obtain⟨sv,mo,hB,hr,hsv,hm⟩:=h.lies;rcases hm with ⟨rfl,hk⟩ | ⟨mb,D,N,rfl,hO,hN,hmap,hTd,hSz,hD⟩
 ·exact zoP B T O ts n wt hn hnew hlen w h hTO hT sv hk hB hr hsv
 ·exact zno B T O ts n wt hn hnew hlen w h hTO hT sv mb (Maps.size D) D hB hr hsv hO (by omega) (zpX hmap) hTd hSz hD
theorem zcc{ts:List Tk}(h:LstIs w B O ts)(q:Nat):LstIs (w.drewN q) B O ts:=lst_off (O':=λ_=>False) h (za7 (zaJ _ _) q) (λ_ _ h=>h)
def upF:Nat->List Tk->Nat->List Tk
 | 0,ts,_=>ts
 | f+1,ts,j=>if j=0 then ts else if lessT (ts.getD j tk0) (ts.getD ((j - 1) / 2) tk0) then upF f (zbi ts ((j - 1) / 2) j) ((j - 1) / 2) else ts
def upL(ts:List Tk)(j:Nat):List Tk:=upF j ts j
theorem zrS(f:Nat):∀ (ts:List Tk) (j:Nat),j<=f->upF f ts j=upF j ts j:=by
 induction f using Nat.strongRecOn with
 | ind f ih =>
   intro ts j hj
   cases f with
   | zero => obtain rfl : j = 0 := by omega
             rfl
   | succ f =>
     cases j with
     | zero=>rfl
     | succ j =>
       show (if j+1=0 then ts else if lessT (ts.getD (j+1) tk0) (ts.getD ((j+1 - 1) / 2) tk0) then upF f (zbi ts ((j+1 - 1) / 2) (j+1)) ((j+1 - 1) / 2) else ts)=(if j+1=0 then ts else if lessT (ts.getD (j+1) tk0) (ts.getD ((j+1 - 1) / 2) tk0) then upF j (zbi ts ((j+1 - 1) / 2) (j+1)) ((j+1 - 1) / 2) else ts);rw[ih f (by omega) _ _ (by omega)];by_cases h:j=f
       · subst h;rw[ih j (by omega) _ _ (by omega)]
       · rw[ih j (by omega) _ _ (by omega)]
theorem zoH(ts:List Tk)(j:Nat):upL ts j=if j=0 then ts else if lessT (ts.getD j tk0) (ts.getD ((j - 1) / 2) tk0) then upL (zbi ts ((j - 1) / 2) j) ((j - 1) / 2) else ts:=by
 cases j with
 | zero=>rfl
 | succ j =>
   unfold upL;show (if j+1=0 then ts else if lessT (ts.getD (j+1) tk0) (ts.getD ((j+1 - 1) / 2) tk0) then upF j (zbi ts ((j+1 - 1) / 2) (j+1)) ((j+1 - 1) / 2) else ts)=_;rw[zrS j _ _ (by omega)]
theorem zup(B:Nat)(O:Nat->Prop)(ts:List Tk)(j:Nat)(hj:j<ts.length)(hlen:ts.length<=1048576)(w:World)(h:LstIs w B O ts) :
 Calls Tryz.prog 206 #[.iface 248 (.pointer (some ⟨B,0,none⟩)),.int .i64 j] w λe w'=>e=.returned (.tuple #[])/\Off O w w'/\w'.heap.size=w.heap.size/\LstIs w' B O (upL ts j):=by
 go_enter Tryz.func206,Tryz.ntmps206;go_wp2
 go_loopw [1] (λx wr=>∃ (k:Nat) (ls:List Tk),x=.int .i64 k/\k<ls.length/\ls.length=ts.length/\LstIs wr B O ls/\Off O w wr/\wr.heap.size=w.heap.size/\upL ls k=upL ts j) (λx _=>(intOf x).toNat)
 case atStart=>exact⟨j,ts,rfl,hj,rfl,h,zaJ _ _,rfl,rfl⟩
 case round =>
  obtain⟨k,ls,rfl,hk,hll,hL,hoff,hsz,hup⟩:=hrel;by_cases h0:k=0
  ·subst h0;rw[zoH,if_pos rfl] at hup;have HL:=zaa hL;have Ho:=zaa hoff;have Hu:=zaa hup;clear hL hoff hup h;go_wp2
   go_end0
   exact⟨rfl,uh Ho,hsz,(uh Hu)▸uh HL⟩
  ·obtain⟨i,hi⟩:∃ i:Nat,((k:Int) - 1).tdiv 2=i:=⟨(k - 1) / 2,by rw[Int.tdiv_eq_ediv_of_nonneg (by omega)];omega⟩;have hi2:(k - 1) / 2=i:=by
    rw[Int.tdiv_eq_ediv_of_nonneg (by omega)] at hi;omega
   have hik:i<k:=by omega
   have hne:((i:Int) == k)=false:=by simp;omega
   rw[zoH,if_neg h0,hi2] at hup;have HLs:=zaa (zff B O ls k i hk (by omega) wr hL (by omega));have HSw:=zaa (λq=>ziy B O ls i k (by omega) hk (wr.drewN q) (zcc hL q));have Ho:=zaa hoff;have HL:=zaa hL
   cases hb:lessT (ls.getD k tk0) (ls.getD i tk0)
   ·rw[hb] at hup HLs;have Hu:=zaa hup;clear hL hoff hup h hb;go_wp2_with (go_at_call 276;refine(uh HLs).mono ?_;rintro e w1 ⟨rfl,q,rfl⟩)
    go_end0
    refine⟨rfl,za7 (uh Ho) q,hsz,?_⟩;have:=uh Hu;simp only[Bool.false_eq_true,if_false] at this;exact this▸zcc (uh HL) q
   ·rw[hb] at hup HLs;have Hu:=zaa hup;clear hL hoff hup h hb;go_wp2_with (first | (go_at_call 276;refine(uh HLs).mono ?_;rintro e w1 ⟨rfl,q,rfl⟩) | (go_at_call 279;refine(uh HSw q).mono ?_;rintro e w2 ⟨rfl,ho2,hs2,hl2⟩;have Ho2:=zaa ho2;have Hl2:=zaa hl2;clear ho2 hl2));go_roundw
    case rel =>
     have:=uh Hu;simp only[if_true] at this;exact⟨i,_,rfl,by rw[zak];omega,by rw[zak];exact hll,uh Hl2,zgR (za7 (uh Ho) q) (uh Ho2),hs2.trans hsz,this⟩
    case measure=>simp[intOf];omega
theorem zql(B T:Nat)(O:Nat->Prop)(ts:List Tk)(n wt:Int)(hn:0<=n/\n<1048576 /\ -9223372036854775808<=wt/\wt<=9223372036854775807)(hnew:n ∉ ts.map Tk.n)(hlen:ts.length<1048576)(w:World)
 (h:LstIs w B O ts) (hTO:¬ O T) (hT:w.heap[T]? = some (.cells #[.int .i64 n,.int .i64 wt,.int .i64 0] 251 (0,0))) :
 Calls Tryz.prog 166 #[.iface 248 (.pointer (some ⟨B,0,none⟩)),.iface 246 (.pointer (some ⟨T,0,none⟩))] w λe w'=>e=.returned (.tuple #[])/\Off (λk=>O k\/k=T) w w' /\
  LstIs w' B (λk=>(O k\/k=T)\/w.heap.size<=k/\k<w'.heap.size) (upL (ts ++ [⟨T,n,wt⟩]) ts.length):=by
 have HP:=zaa (zoQ B T O ts n wt hn hnew hlen w h hTO hT);have hTl:=lt_of_some hT;have HO:=zaa h.lt;clear h hTO hT hnew;go_enter Tryz.func166,Tryz.ntmps166;go_wp2_with (go_at_call 278;refine(uh HP).mono ?_;rintro e w1 ⟨rfl,ho,hl⟩);have HLn:=zaa (zgj _ _ _ w1 hl);have HU:=zaa (zup _ _ _ ts.length (by simp) (by simp;omega) w1 hl);rw[List.length_append,List.length_singleton] at HLn;have Ho:=zaa ho;have hlen':(ts.length:Int)<1048576:=by omega
 clear ho hl;have hsub:((ts.length+1:Nat):Int) - 1=ts.length:=by omega
 go_wp2_with (first | (go_at_call 275;refine(uh HLn).mono ?_;rintro e w2 ⟨rfl,hw⟩;obtain rfl:=hw.symm) | (go_at_call 206;refine(uh HU).mono ?_;rintro e w2 ⟨rfl,ho2,hs2,hl2⟩;have Ho2:=zaa ho2;have Hl2:=zaa hl2;clear ho2 hl2))
 go_end0
 have h2:Off (λk=>O k\/k=T) w w2:=zj0 (uh Ho) (uh Ho2) (λi hi=>by rcases hi with h | h;exact .inl h;exact .inr h.1);refine⟨rfl,h2,zmE (uh Hl2) (λk hk=>?_) (λk hk=>?_)⟩
 ·rcases hk with h | h
  ·exact .inl h
  ·exact .inr ⟨h.1,by omega⟩
 ·rcases hk with (h | h) | h
  ·have:=uh HO k h;have:=h2.size;omega
  ·have:=h2.size;omega
  ·exact h.2
theorem znS{ts:List Tk}(h:LstIs w B O ts){n:Int}(hn:0<=n/\n<1048576)(hnew:n ∉ ts.map Tk.n):∃ m,w.cell? ⟨B,1,none⟩=some (.map m)/\∀ w',Below w.heap.size w w'->(Instr.lookup 235 (.map m) (.int .i64 n) false).run Tryz.prog w'=.ok (.pointer none) w':=by
 obtain⟨sv,mo,hB,hr,hsv,hm⟩:=h.lies;have hk:=keyOf_int_mk Tryz.underlying3 (WalkArith.wf_i64 (n:=n) (by omega));refine⟨mo,cell_block hB 1 _ rfl,λw' hb=>?_⟩;rcases hm with ⟨rfl,-⟩ | ⟨mb,D,N,rfl,hO,hN,hmap,hTd,hSz,hD⟩
 ·rw[look_nil (w:=w') false zke Tryz.underlying235 (zov _) hk];rfl
 ·have hmap':=ziV (O:=λ_=>False) hmap (zbj hb) (λh=>h);obtain⟨v,ps,hrun,hv⟩:=hmap'.lookup zke Tryz.underlying235 (zov _) (zd:=.lit (.int .i64 0)) (zp:=[]) rfl hk;rw[(hD n).2,zde hnew] at hv;rw[hrun,zpm hv]
theorem push_new(B:Nat)(O:Nat->Prop)(ts:List Tk)(n wt:Int)(hn:0<=n/\n<1048576 /\ -9223372036854775808<=wt/\wt<=9223372036854775807)(hnew:n ∉ ts.map Tk.n)(hlen:ts.length<1048576)(w:World)(h:LstIs w B O ts) :
 Calls Tryz.prog 118 #[.pointer (some ⟨B,0,none⟩),.int .i64 n,.int .i64 wt] w λe w'=>e=.returned (.tuple #[.bool true,.int .i64 0])/\Off O w w' /\
  ∃ T,LstIs w' B (λk=>O k\/w.heap.size<=k/\k<w'.heap.size) (upL (ts ++ [⟨T,n,wt⟩]) ts.length):=by
 have HN:=zaa (zdP n w);rw[show decide (0<=n/\n<1048576)=true by simpa using ⟨hn.1,hn.2.1⟩] at HN;obtain⟨m,cm,hq⟩:=znS h ⟨hn.1,hn.2.1⟩ hnew;have hq0:=hq w (Below.refl _ _);have hb0:Below w.heap.size w (w.alloc (.cells #[.int .i64 n,.int .i64 wt,.int .i64 0] 251)):=(Below.refl _ _).alloc (Nat.le_refl _) _;have HP:=zaa (zql B w.heap.size O ts n wt hn hnew hlen (w.alloc (.cells #[.int .i64 n,.int .i64 wt,.int .i64 0] 251)) (lst_below h hb0) (λh'=>by have:=h.lt _ h';omega) (MapKept.heap_alloc w _).1);have HO:=zaa h.lt;have Hb0:=zaa hb0;clear h hnew hb0 hq;go_enter Tryz.func118,Tryz.ntmps118;go_wp2_with (first | (go_at_call 164;refine(uh HN).mono ?_;rintro e w2 ⟨rfl,hw⟩;obtain rfl:=hw.symm) | (go_at_call 166;refine(uh HP).mono ?_;rintro e w2 ⟨rfl,ho2,hl2⟩;have Ho2:=zaa ho2;have Hl2:=zaa hl2;clear ho2 hl2))
 go_ret2
 have hs:w.heap.size+1<=w2.heap.size:=by have:=(uh Ho2).size;simpa using this
 refine⟨rfl,zj0 (zbj (uh Hb0)) (uh Ho2) (λi hi=>by rcases hi with h | h;exact .inl h;exact .inr (by omega)),w.heap.size,zmE (uh Hl2) (λk hk=>?_) (λk hk=>?_)⟩
 ·rcases hk with (h | h) | h
  ·exact .inl h
  ·exact .inr ⟨by omega,by omega⟩
  ·exact .inr ⟨by simp at h;omega,h.2⟩
 ·rcases hk with h | h
  ·have:=uh HO k h;omega
  ·exact h.2
def zb5(ts:List Tk)(n i:Nat):Nat:=if 2 * i+2<n/\lessT (ts.getD (2 * i+2) tk0) (ts.getD (2 * i+1) tk0)=true then 2 * i+2 else 2 * i+1
theorem zfO(ts:List Tk)(n i:Nat):zb5 ts n i=2 * i+2/\2 * i+2<n\/zb5 ts n i=2 * i+1:=by
 unfold zb5;split
 ·rename_i h;exact .inl ⟨rfl,h.1⟩
 ·exact .inr rfl
def zdW:Nat->List Tk->Nat->Nat->List Tk × Nat
 | 0,ts,_,i=>(ts,i)
 | f+1,ts,n,i=>if 2 * i+1<n then(if lessT (ts.getD (zb5 ts n i) tk0) (ts.getD i tk0) then zdW f (zbi ts i (zb5 ts n i)) n (zb5 ts n i) else(ts,i)) else(ts,i)
def zdC(ts:List Tk)(n i:Nat):List Tk × Nat:=zdW (n - i) ts n i
theorem zid(f:Nat):∀ (ts:List Tk) (n i:Nat),n - i<=f->zdW f ts n i=zdW (n - i) ts n i:=by
 induction f using Nat.strongRecOn with
 | ind f ih =>
   intro ts n i hj
   cases f with
   | zero=>rw[show n - i=0 by omega]
   | succ f =>
     by_cases h:2 * i+1<n
     ·obtain⟨m,hm⟩:∃ m,n - i=m+1:=⟨n - i - 1,by omega⟩;have hk:=zfO ts n i;rw[hm];show (if 2 * i+1<n then(if lessT (ts.getD (zb5 ts n i) tk0) (ts.getD i tk0) then zdW f (zbi ts i (zb5 ts n i)) n (zb5 ts n i) else(ts,i)) else(ts,i))=(if 2 * i+1<n then(if lessT (ts.getD (zb5 ts n i) tk0) (ts.getD i tk0) then zdW m (zbi ts i (zb5 ts n i)) n (zb5 ts n i) else(ts,i)) else(ts,i));rw[ih f (by omega) _ n (zb5 ts n i) (by omega),ih m (by omega) _ n (zb5 ts n i) (by omega)]
     ·have e:∀ g,zdW g ts n i=(ts,i):=λg=>by cases g with
       | zero=>rfl
       | succ g=>show (if 2 * i+1<n then _ else _)=_;rw[if_neg h]
      rw[e,e]
theorem zfp(ts:List Tk)(n i:Nat):zdC ts n i=if 2 * i+1<n then(if lessT (ts.getD (zb5 ts n i) tk0) (ts.getD i tk0) then zdC (zbi ts i (zb5 ts n i)) n (zb5 ts n i) else(ts,i)) else(ts,i):=by
 unfold zdC;have hk:=zfO ts n i;rw[<- zid (n - i+1) ts n i (by omega)];show (if 2 * i+1<n then(if lessT (ts.getD (zb5 ts n i) tk0) (ts.getD i tk0) then zdW (n - i) (zbi ts i (zb5 ts n i)) n (zb5 ts n i) else(ts,i)) else(ts,i))=_;rw[zid (n - i) _ n (zb5 ts n i) (by omega)]
theorem zmU(B:Nat)(O:Nat->Prop)(ts:List Tk)(n i0:Nat)(hi:i0<ts.length)(hn:n<=ts.length)(hlen:ts.length<=1048576)(w:World)(h:LstIs w B O ts) :
 Calls Tryz.prog 232 #[.iface 248 (.pointer (some ⟨B,0,none⟩)),.int .i64 i0,.int .i64 n] w λe w'=>e=.returned (.bool (decide ((i0:Int)<(zdC ts n i0).2)))/\Off O w w'/\w'.heap.size=w.heap.size/\LstIs w' B O (zdC ts n i0).1:=by
 go_enter Tryz.func232,Tryz.ntmps232;go_wp2
 go_loopw [7] (λx wr=>∃ (k:Nat) (ls:List Tk),x=.int .i64 k/\k<ls.length/\ls.length=ts.length/\LstIs wr B O ls/\Off O w wr/\wr.heap.size=w.heap.size/\zdC ls n k=zdC ts n i0) (λx _=>n - (intOf x).toNat)
 case atStart=>exact⟨i0,ts,rfl,hi,rfl,h,zaJ _ _,rfl,rfl⟩
 case round =>
  obtain⟨k,ls,rfl,hk,hll,hL,hoff,hsz,hdn⟩:=hrel;have HL:=zaa hL;have Ho:=zaa hoff;have hk':(k:Int)<1048576:=by omega
  obtain⟨a,ha⟩:∃ a:Nat,2 * (k:Int)+1=a:=⟨2 * k+1,by omega⟩;have ha2:2 * k+1=a:=by omega
  rw[zfp,ha2] at hdn;clear h hi;by_cases h1:a<n
  ·have h1':¬ (n:Int)<=a:=by omega
   have h1'':¬ ((a:Int)<0):=by omega
   rw[if_pos h1] at hdn;obtain⟨b,hb⟩:∃ b:Nat,(a:Int)+1=b:=⟨a+1,by omega⟩;have hb2:2 * k+2=b:=by omega
   have hkidd:zb5 ls n k=if b<n/\lessT (ls.getD b tk0) (ls.getD a tk0)=true then b else a:=by unfold zb5;rw[ha2,hb2]
   have HSw:=zaa (λj (hj:j<ls.length) q=>ziy B O ls k j hk hj (wr.drewN q) (zcc hL q));have HLs:=zaa (λj (hj:j<ls.length) q=>zff B O ls j k hj hk (wr.drewN q) (zcc hL q) (by omega));have hka:k<a:=by omega
   have hab:a<b:=by omega
   clear ha2 hb2;by_cases h2:b<n
   ·have h2':(b:Int)<n:=by omega
    have HL2:=zaa (zff B O ls b a (by omega) (by omega) wr hL (by omega))
    cases hq:lessT (ls.getD b tk0) (ls.getD a tk0)
    · rw [hq] at HL2;rw[show zb5 ls n k=a by rw[hkidd,hq];simp] at hdn;clear hL hoff hq hkidd;have HLs1:=zaa (uh HLs a (by omega));have HSw1:=zaa (uh HSw a (by omega))
      cases hc:lessT (ls.getD a tk0) (ls.getD k tk0)
      · rw[hc] at hdn HLs1;have Hd:=zaa hdn;clear hdn hc HLs HSw HSw1;go_wp2_with fail;refine(uh HL2).mono ?_;rintro e w1 ⟨rfl,q,rfl⟩;go_wp2_with fail;refine(uh HLs1 q).mono ?_;rintro e w2 ⟨rfl,q2,rfl⟩;go_wp2;go_ret;have hd:=uh Hd;simp only[Bool.false_eq_true,if_false] at hd;rw[<- hd];exact⟨zbo (by simp),za7 (uh Ho) _,hsz,zcc (uh HL) _⟩
      · rw[hc] at hdn HLs1;have Hd:=zaa hdn;clear hdn hc HLs HSw;go_wp2_with fail;refine(uh HL2).mono ?_;rintro e w1 ⟨rfl,q,rfl⟩;go_wp2_with fail;refine(uh HLs1 q).mono ?_;rintro e w2 ⟨rfl,q2,rfl⟩;obtain⟨q3,hq3⟩:=zds wr q q2;rw[hq3];go_wp2_with fail;refine(uh HSw1 q3).mono ?_;rintro e w3 ⟨rfl,ho2,hs2,hl2⟩;have Ho2:=zaa ho2;have Hl2:=zaa hl2;clear ho2 hl2;go_wp2;go_roundw
        case rel =>
          have hd:=uh Hd;simp only[if_true] at hd;exact⟨a,_,rfl,by rw[zak];omega,by rw[zak];exact hll,uh Hl2,zgR (za7 (uh Ho) q3) (uh Ho2),hs2.trans hsz,hd⟩
        case measure=>simp[intOf];omega
    · rw [hq] at HL2;rw[show zb5 ls n k=b by rw[hkidd,hq];simp[h2]] at hdn;clear hL hoff hq hkidd;have HLs1:=zaa (uh HLs b (by omega));have HSw1:=zaa (uh HSw b (by omega))
      cases hc:lessT (ls.getD b tk0) (ls.getD k tk0)
      · rw[hc] at hdn HLs1;have Hd:=zaa hdn;clear hdn hc HLs HSw HSw1;go_wp2_with fail;refine(uh HL2).mono ?_;rintro e w1 ⟨rfl,q,rfl⟩;go_wp2_with fail;refine(uh HLs1 q).mono ?_;rintro e w2 ⟨rfl,q2,rfl⟩;go_wp2;go_ret;have hd:=uh Hd;simp only[Bool.false_eq_true,if_false] at hd;rw[<- hd];exact⟨zbo (by simp),za7 (uh Ho) _,hsz,zcc (uh HL) _⟩
      · rw[hc] at hdn HLs1;have Hd:=zaa hdn;clear hdn hc HLs HSw;go_wp2_with fail;refine(uh HL2).mono ?_;rintro e w1 ⟨rfl,q,rfl⟩;go_wp2_with fail;refine(uh HLs1 q).mono ?_;rintro e w2 ⟨rfl,q2,rfl⟩;obtain⟨q3,hq3⟩:=zds wr q q2;rw[hq3];go_wp2_with fail;refine(uh HSw1 q3).mono ?_;rintro e w3 ⟨rfl,ho2,hs2,hl2⟩;have Ho2:=zaa ho2;have Hl2:=zaa hl2;clear ho2 hl2;go_wp2;go_roundw
        case rel =>
          have hd:=uh Hd;simp only[if_true] at hd;exact⟨b,_,rfl,by rw[zak];omega,by rw[zak];exact hll,uh Hl2,zgR (za7 (uh Ho) q3) (uh Ho2),hs2.trans hsz,hd⟩
        case measure=>simp[intOf];omega
   ·have h2':¬ (b:Int)<n:=by omega
    rw[show zb5 ls n k=a by rw[hkidd,if_neg (by omega)]] at hdn;clear hL hoff hkidd;have HLs1:=zaa (uh HLs a (by omega) 0);have HSw1:=zaa (uh HSw a (by omega))
    cases hc:lessT (ls.getD a tk0) (ls.getD k tk0)
    ·rw[hc] at hdn HLs1;have Hd:=zaa hdn;clear hdn hc HLs HSw HSw1;go_wp2_with fail;refine(uh HLs1).mono ?_;rintro e w2 ⟨rfl,q2,rfl⟩;go_wp2;go_ret;have hd:=uh Hd;simp only[Bool.false_eq_true,if_false] at hd;rw[<- hd];exact⟨zbo (by simp),za7 (uh Ho) _,hsz,zcc (uh HL) _⟩
    ·rw[hc] at hdn HLs1;have Hd:=zaa hdn;clear hdn hc HLs HSw;go_wp2_with fail;refine(uh HLs1).mono ?_;rintro e w2 ⟨rfl,q2,rfl⟩;obtain⟨q3,hq3⟩:=zds wr 0 q2
     try rw[hq3]
     go_wp2_with fail;refine(uh HSw1 q3).mono ?_;rintro e w3 ⟨rfl,ho2,hs2,hl2⟩;have Ho2:=zaa ho2;have Hl2:=zaa hl2;clear ho2 hl2;go_wp2;go_roundw
     case rel =>
      have hd:=uh Hd;simp only[if_true] at hd;exact⟨a,_,rfl,by rw[zak];omega,by rw[zak];exact hll,uh Hl2,zgR (za7 (uh Ho) q3) (uh Ho2),hs2.trans hsz,hd⟩
     case measure=>simp[intOf];omega
  ·have h1':(n:Int)<=a:=by omega
   rw[if_neg h1] at hdn;have Hd:=zaa hdn;clear hL hoff hdn ha2;go_wp2;go_ret;rw[<- uh Hd];exact⟨zbo (by simp),uh Ho,hsz,uh HL⟩
theorem zvG{e:TypeId}{n:Nat}(h:w.ownsRow B e 1 (.slice (some ⟨g,0,none⟩) n c) n xs)(k:Nat)(hk:k<=n):w.ownsRow B e 1 (.slice (some ⟨g,0,none⟩) k c) k (xs.take k):=by
 have hl:=h.1;refine⟨by simp at hl ⊢;omega,?_⟩;rcases h.2 with ⟨h0,_⟩ | ⟨g',c',cur,hv,hb,hh,h1,h2,h3,h4⟩
 ·simp at h0
 ·simp only[Value.slice.injEq,Option.some.injEq,Addr.mk.injEq,and_true,true_and] at hv;obtain⟨rfl,rfl⟩:=hv;refine .inr ⟨g,c,cur,rfl,hb,hh,by omega,h2,h3,?_⟩;rw[<- h4,List.take_take]
  congr 1
  omega
theorem zvZ{W3:World}{ts:List Tk}{t:Tk}
 (h:LstIs w B O (ts ++ [t])) (hB:w.heap[B]? = some (.cells #[.slice (some ⟨g,0,none⟩) (ts.length+1) c,.map (some mb)] 239 (0,0))) (hr:w.ownsRow 0 246 1 (.slice (some ⟨g,0,none⟩) (ts.length+1) c) (ts.length+1) ((ts ++ [t]).map zcO)) (hOg:O g)
 (hO:O mb) (hN:N<=1048576) (hmap:w.ownsMap (H:=Unit) Tryz.prog 3 zfy mb N D) (hTd:Tidy D) (hSz:Maps.size D=(ts ++ [t]).length) (hD:∀ n,Maps.has D (.int .i64 n)=decide (n ∈ (ts ++ [t]).map Tk.n)/\D.atKey (.int .i64 n) (.lit (.int .i64 0))=.lit (.int .i64 (zbz (ts ++ [t]) n))) :
 (((w.setCell ⟨g,ts.length,none⟩ (.pointer none)).setCell ⟨B,0,none⟩ (.slice (some ⟨g,0,none⟩) ts.length c)).ownsMap (H:=Unit) Tryz.prog 3 zfy mb N D) /\
 (W3.ownsMap (H:=Unit) Tryz.prog 3 zfy mb N (D.del (.int .i64 t.n))->((w.setCell ⟨g,ts.length,none⟩ (.pointer none)).setCell ⟨B,0,none⟩ (.slice (some ⟨g,0,none⟩) ts.length c)).grownBy W3 (some mb) ->
  Off O w W3/\W3.heap[t.at_]? = some (.cells #[.int .i64 t.n,.int .i64 t.wt,.int .i64 ts.length] 251 (0,0))/\LstIs W3 B O ts):=by
 have hgc:∃ cur,w.heap[g]? = some (.cells cur 246 (0,0)):=by
  rcases hr.2 with ⟨e,_⟩ | ⟨g',cap,cur,e,_,hh,_⟩
  ·simp at e
  ·simp only[Value.slice.injEq,Option.some.injEq,Addr.mk.injEq,and_true,true_and] at e;exact⟨cur,e.1▸hh⟩
 obtain⟨cur,hgc⟩:=hgc;have n1:=zb1 hgc hmap;have n2:=zb1 hB hmap;have hgB:g≠B:=zcS hgc hB (by decide);have hm2:=(hmap.setCell (a:=⟨g,ts.length,none⟩) n1 (.pointer none)).setCell (a:=⟨B,0,none⟩) n2 (.slice (some ⟨g,0,none⟩) ts.length c);refine⟨hm2,λhm3 hg3=>?_⟩
 have hB2:((w.setCell ⟨g,ts.length,none⟩ (.pointer none)).setCell ⟨B,0,none⟩ (.slice (some ⟨g,0,none⟩) ts.length c)).heap[B]? = some (.cells #[.slice (some ⟨g,0,none⟩) ts.length c,.map (some mb)] 239 (0,0)) :=
  block_set (i:=0) ((Below.heap_setCell w ⟨g,ts.length,none⟩ _ B (λe=>hgB e.symm)).trans hB) _
 have ho2:Off O w ((w.setCell ⟨g,ts.length,none⟩ (.pointer none)).setCell ⟨B,0,none⟩ (.slice (some ⟨g,0,none⟩) ts.length c)):=zaL (zaL (zaJ _ _) (p:=⟨g,ts.length,none⟩) (.inl hOg) _) (p:=⟨B,0,none⟩) (.inl h.own) _;have ho3:=zc9 ho2 hg3 (λk hk=>by cases hk;exact .inl hO);have s1:=hr.stored ts.length (.pointer none);have hrow2:((w.setCell ⟨g,ts.length,none⟩ (.pointer none)).setCell ⟨B,0,none⟩ (.slice (some ⟨g,0,none⟩) ts.length c)).ownsRow 0 246 1 (.slice (some ⟨g,0,none⟩) ts.length c) ts.length (ts.map zcO):=by
  have hx:=zvG (own_off (O:=λk=>k=B) s1.1 (zaL (O:=λk=>k=B) (zaJ _ _) (p:=⟨B,0,none⟩) (.inl rfl) (.slice (some ⟨g,0,none⟩) ts.length c)) (λk hk e=>by simp only[Value.ownBlock,Option.some.injEq] at hk;omega)) ts.length (by omega);have e:(((ts ++ [t]).map zcO).set ts.length (.pointer none)).take ts.length=ts.map zcO:=by
   rw[List.take_set_of_le (Nat.le_refl _),List.map_append,List.take_append_of_le_length (by simp),List.take_of_length_le (by simp)]
  rw[e] at hx;exact hx
 have n5:=zgJ hrow2 hm2;have hrow3:=hrow2.kept hg3 (zlv (λk hk=>by cases hk;exact n5));have task3:∀ i,i<(ts ++ [t]).length->W3.heap[((ts ++ [t]).getD i tk0).at_]? = some (.cells #[.int .i64 ((ts ++ [t]).getD i tk0).n,.int .i64 ((ts ++ [t]).getD i tk0).wt,.int .i64 i] 251 (0,0)):=λi hi=>by
  have hb:=(h.tasks i hi).2;have e1:=zcS hb hgc (by decide);have e2:=zcS hb hB (by decide);have e3:=zb1 hb hmap;have hb2:((w.setCell ⟨g,ts.length,none⟩ (.pointer none)).setCell ⟨B,0,none⟩ (.slice (some ⟨g,0,none⟩) ts.length c)).heap[((ts ++ [t]).getD i tk0).at_]? = _:=(Below.heap_setCell _ ⟨B,0,none⟩ _ _ e2).trans ((Below.heap_setCell w ⟨g,ts.length,none⟩ _ _ e1).trans hb);exact(hg3.block _ (lt_of_some hb2) (λe=>by cases e;exact e3 rfl)).trans hb2
 have apt:=h.apart;rw[List.map_append,List.nodup_append] at apt;have hnt:t.n ∉ ts.map Tk.n:=λhc=>apt.2.2 t.n hc t.n (by simp) rfl;refine⟨ho3,?_,⟨h.own,λk hk=>Nat.lt_of_lt_of_le (h.lt k hk) ho3.size,λx hx=>h.nums x (List.mem_append_left _ hx),apt.1,?_,?_,.slice (some ⟨g,0,none⟩) ts.length c,some mb,?_,hrow3,?_,.inr ⟨mb,_,N,rfl,hO,hN,hm3,hTd.del _,?_,?_⟩⟩⟩
 ·have:=task3 ts.length (by simp);rw[zcf (by simp),if_pos rfl] at this;exact this
 ·have hb:=h.blocks;rw[List.map_append,List.nodup_append] at hb;exact hb.1
 ·intro i hi;have hi':i<(ts ++ [t]).length:=by simp;omega
  have h1:=task3 i hi';have h2:=(h.tasks i hi').1;rw[zcf hi',if_neg (by omega)] at h1 h2;exact⟨h2,h1⟩
 ·exact(hg3.block B (lt_of_some hB2) (λe=>by cases e;exact n2 rfl)).trans hB2
 ·intro k hk;simp only[Value.ownBlock,Option.some.injEq] at hk;exact hk▸hOg
 ·have:=size_del (k:=.int .i64 t.n) hTd;rw[(hD t.n).1] at this;simp at this hSz;omega
 ·intro x;by_cases hx:x=t.n
  ·subst hx;rw[has_del_same,atKey_del_same,zde hnt];simp only[decide_eq_false hnt,and_self]
  ·have hne:(Lit.int .i64 x)≠.int .i64 t.n:=by simpa using hx
   rw[has_del_other hne,atKey_del_other hne,(hD x).1,(hD x).2,zfW hnt,if_neg hx];simp[hx]
theorem zrX(B:Nat)(O:Nat->Prop)(ts:List Tk)(t:Tk)(hlen:ts.length<1048576)(w:World)(h:LstIs w B O (ts ++ [t])) :
 Calls Tryz.prog 277 #[.pointer (some ⟨B,0,none⟩)] w λe w'=>e=.returned (.iface 246 (.pointer (some ⟨t.at_,0,none⟩)))/\Off O w w'/\w'.heap[t.at_]? = some (.cells #[.int .i64 t.n,.int .i64 t.wt,.int .i64 ts.length] 251 (0,0))/\LstIs w' B O ts:=by
 have hnum:=h.nums t (by simp);obtain⟨sv,mo,hB,hr,hsv,hm⟩:=h.lies;rcases hm with ⟨-,h0⟩ | ⟨mb,D,N,rfl,hO,hN,hmap,hTd,hSz,hD⟩
 ·simp at h0
 rw[List.length_append,List.length_singleton] at hr;obtain⟨g,c,rfl,-,hgl,hc1,hc2⟩:=own_pos hr (by omega);have Hg:=zaa (λW3=>zvZ (W3:=W3) h hB hr (hsv g rfl) hO hN hmap hTd hSz hD);have hbt:=(h.tasks ts.length (by simp)).2;rw[zcf (by simp),if_pos rfl] at hbt;have ct:w.cell? ⟨t.at_,0,none⟩=some (.int .i64 t.n):=cell_block hbt 0 _ rfl;have c0:=cell_block hB 0 _ rfl;have c1:=cell_block hB 1 _ rfl;have f0:=frozen_block hB 0;have cg:w.cell? ⟨g,ts.length,none⟩=some (.pointer (some ⟨t.at_,0,none⟩)):=by
  rw[own_cell hr rfl ts.length (by simp),List.getD_eq_getElem?_getD,List.getElem?_map,List.getElem?_append_right (Nat.le_refl _),Nat.sub_self];rfl
 have fg:w.frozen? ⟨g,ts.length,none⟩=false:=hr.frozenAt _;have hgB:¬ g=B:=λe=>zbd hB hr (by decide) (by rw[e];rfl);have htg:¬ t.at_=g:=λe=>zbd hbt hr (by decide) (by rw[e];rfl);have htB:¬ t.at_=B:=zcS hbt hB (by decide);have Hk:=zaa (keyOf_int_mk Tryz.underlying3 (WalkArith.wf_i64 (n:=t.n) (by omega)));obtain⟨W3,hrun,hm3,hg3⟩:=((uh Hg w).1.drew).drop zke Tryz.underlying235 (uh Hk) 0;have hg3':=hg3.grown;have Hh:=zaa ((uh Hg W3).2 hm3 ⟨hg3'.os,hg3'.tape,hg3'.output,hg3'.size,hg3'.block⟩);clear hB hr hsv h hmap hD hSz hTd hm3 hg3 hg3' hbt Hg;have hsub:((ts.length+1:Nat):Int) - 1=ts.length:=by omega
 have hl':(ts.length:Int)<1048576:=by omega
 have hcc:(ts.length:Int)+1<=c:=by omega
 go_enter Tryz.func277,Tryz.ntmps277;go_wp2
 go_region
 all_goals
  go_wp2;go_ret;exact⟨rfl,uh Hh⟩
def zjv(ts:List Tk):List Tk:=(zdC (zbi ts 0 (ts.length - 1)) (ts.length - 1) 0).1
theorem zkv(f:Nat):∀ (ts:List Tk) (n i:Nat),(zdW f ts n i).1.length=ts.length:=by
 induction f with
 | zero=>intro ts n i;rfl
 | succ f ih =>
   intro ts n i;show (if 2 * i+1<n then(if lessT (ts.getD (zb5 ts n i) tk0) (ts.getD i tk0) then zdW f (zbi ts i (zb5 ts n i)) n (zb5 ts n i) else(ts,i)) else(ts,i)).1.length=_
   split
   ·split
    ·rw[ih,zak]
    ·rfl
   ·rfl
theorem zdV(ts:List Tk)(n i:Nat):(zdC ts n i).1.length=ts.length:=zkv _ ts n i
theorem znl(f:Nat):∀ (ts:List Tk) (j:Nat),(upF f ts j).length=ts.length:=by
 induction f with
 | zero=>intro ts j;rfl
 | succ f ih =>
   intro ts j;show (if j=0 then ts else if lessT (ts.getD j tk0) (ts.getD ((j - 1) / 2) tk0) then upF f (zbi ts ((j - 1) / 2) j) ((j - 1) / 2) else ts).length=_
   split
   ·rfl
   ·split
    ·rw[ih,zak]
    ·rfl
theorem upL_length(ts:List Tk)(j:Nat):(upL ts j).length=ts.length:=znl _ ts j
theorem zty(B:Nat)(O:Nat->Prop)(ts:List Tk)(hpos:0<ts.length)(hlen:ts.length<=1048576)(w:World)(h:LstIs w B O ts) :
 Calls Tryz.prog 208 #[.iface 248 (.pointer (some ⟨B,0,none⟩))] w λe w'=>∃ rest t,zjv ts=rest ++ [t]/\e=.returned (.iface 246 (.pointer (some ⟨t.at_,0,none⟩)))/\Off O w w'/\w'.heap[t.at_]? = some (.cells #[.int .i64 t.n,.int .i64 t.wt,.int .i64 rest.length] 251 (0,0))/\LstIs w' B O rest:=by
 have HLn:=zaa (zgj B O ts w h);obtain⟨m,hm⟩:∃ m:Nat,(ts.length:Int) - 1=m:=⟨ts.length - 1,by omega⟩;have hm2:ts.length - 1=m:=by omega
 have HSw:=zaa (ziy B O ts 0 m hpos (by omega) w h);have HD:=zaa (λw1 hl=>zmU B O (zbi ts 0 m) m 0 (by rw[zak];omega) (by rw[zak];omega) (by rw[zak];omega) w1 hl);obtain⟨rest,t,hrt⟩:∃ rest t,zjv ts=rest ++ [t]:=by
  have hl:(zjv ts).length=ts.length:=by unfold zjv;rw[zdV,zak]
  rcases List.eq_nil_or_concat (zjv ts) with h0 | ⟨r,t,h1⟩
  ·rw[h0] at hl;simp at hl;omega
  ·exact⟨r,t,by rw[h1];simp⟩
 have hrl:rest.length<1048576:=by
  have hl:(zjv ts).length=ts.length:=by unfold zjv;rw[zdV,zak]
  rw[hrt] at hl;simp at hl;omega
 have hrt':(zdC (zbi ts 0 m) m 0).1=rest ++ [t]:=by rw[<- hrt,zjv,hm2]
 have HP:=zaa (λw2 hl=>zrX B O rest t hrl w2 hl);rw[hrt'] at HD;have Hrt:=zaa hrt;clear h hrt hrt' hrl;generalize decide (((0:Nat):Int)<(zdC (zbi ts 0 m) m 0).2)=bb at *;go_enter Tryz.func208,Tryz.ntmps208;go_wp2_with fail;refine(uh HLn).mono ?_;rintro e w1 ⟨rfl,hw⟩;obtain rfl:=hw.symm;go_wp2_with fail;refine(uh HSw).mono ?_;rintro e w1 ⟨rfl,ho1,hs1,hl1⟩;have HD1:=zaa (uh HD w1 hl1);have Ho1:=zaa ho1;clear ho1 hl1 HD HSw;go_wp2_with fail;refine(uh HD1).mono ?_;rintro e w2 ⟨rfl,ho2,hs2,hl2⟩;have HP1:=zaa (uh HP w2 hl2);have Ho2:=zaa ho2;clear ho2 hl2 HP HD1;go_wp2_with fail;refine(uh HP1).mono ?_;rintro e w3 ⟨rfl,ho3,hb3,hl3⟩;have Ho3:=zaa ho3;have Hb3:=zaa hb3;have Hl3:=zaa hl3;clear ho3 hb3 hl3 HP1;go_wp2;go_ret;exact⟨rest,t,uh Hrt,rfl,zgR (uh Ho1) (zgR (uh Ho2) (uh Ho3)),uh Hb3,uh Hl3⟩
theorem ziw(B:Nat)(O:Nat->Prop)(ts:List Tk)(hpos:0<ts.length)(hlen:ts.length<=1048576)(w:World)(h:LstIs w B O ts) :
 Calls Tryz.prog 168 #[.iface 248 (.pointer (some ⟨B,0,none⟩))] w λe w'=>∃ rest t,zjv ts=rest ++ [t]/\e=.returned (.pointer (some ⟨t.at_,0,none⟩))/\Off O w w'/\w'.heap[t.at_]? = some (.cells #[.int .i64 t.n,.int .i64 t.wt,.int .i64 rest.length] 251 (0,0))/\LstIs w' B O rest:=by
 have HP:=zaa (zty B O ts hpos hlen w h);have qa:=λ(v:Value) (w:World)=>zjo v w;clear h;go_enter Tryz.func168,Tryz.ntmps168;go_wp2_with fail;refine(uh HP).mono ?_;rintro e w1 ⟨rest,t,h1,rfl,h2,h3,h4⟩;have H1:=zaa h1;have H2:=zaa h2;have H3:=zaa h3;have H4:=zaa h4;clear h1 h2 h3 h4;go_wp2;go_ret;exact⟨rest,t,uh H1,rfl,uh H2,uh H3,uh H4⟩
theorem zmI(B:Nat)(O:Nat->Prop)(ts:List Tk)(w:World)(h:LstIs w B O ts) :
 Calls Tryz.prog 167 #[.pointer (some ⟨B,0,none⟩)] w λe w'=>e=.returned (.int .i64 ts.length)/\w'=w:=by
 have HLn:=zaa (zgj B O ts w h);clear h;go_enter Tryz.func167,Tryz.ntmps167;go_wp2_with (first | (go_at_call 207;go_in) | (go_at_call 275;refine(uh HLn).mono ?_;rintro e w1 ⟨rfl,hw⟩;obtain rfl:=hw.symm));go_ret;exact⟨rfl,rfl⟩
theorem pop_none(B:Nat)(O:Nat->Prop)(w:World)(h:LstIs w B O []) :
 Calls Tryz.prog 119 #[.pointer (some ⟨B,0,none⟩)] w λe w'=>e=.returned (.tuple #[.int .i64 0,.int .i64 0,.bool false])/\w'=w:=by
 have HLn:=zaa (zmI B O [] w h);clear h;go_enter Tryz.func119,Tryz.ntmps119;go_wp2_with (go_at_call 167;refine(uh HLn).mono ?_;rintro e w1 ⟨rfl,hw⟩;obtain rfl:=hw.symm)
 go_ret3
 exact⟨rfl,rfl⟩
theorem pop_some(B:Nat)(O:Nat->Prop)(ts:List Tk)(hpos:0<ts.length)(hlen:ts.length<=1048576)(w:World)(h:LstIs w B O ts) :
 Calls Tryz.prog 119 #[.pointer (some ⟨B,0,none⟩)] w λe w'=>∃ rest t,zjv ts=rest ++ [t]/\e=.returned (.tuple #[.int .i64 t.n,.int .i64 t.wt,.bool true])/\Off O w w'/\LstIs w' B O rest:=by
 have HLn:=zaa (zmI B O ts w h);have HP:=zaa (ziw B O ts hpos hlen w h);have hne:((ts.length:Int) == 0)=false:=by rw[beq_eq_false_iff_ne];omega
 clear h;go_enter Tryz.func119,Tryz.ntmps119;go_wp2_with fail;refine(uh HLn).mono ?_;rintro e w1 ⟨rfl,hw⟩;obtain rfl:=hw.symm;go_wp2_with fail;refine(uh HP).mono ?_;rintro e w1 ⟨rest,t,h1,rfl,h2,h3,h4⟩;have a0:w1.cell? ⟨t.at_,0,none⟩=some (.int .i64 t.n):=cell_block h3 0 _ rfl;have a1:w1.cell? ⟨t.at_,1,none⟩=some (.int .i64 t.wt):=cell_block h3 1 _ rfl;have H1:=zaa h1;have H2:=zaa h2;have H4:=zaa h4;clear h1 h2 h3 h4;go_wp2;go_quiet (fail);go_wp2
 go_ret3
 exact⟨rest,t,uh H1,rfl,za7 (uh H2) _,zcc (uh H4) _⟩
theorem lst_new(w:World):LstIs (w.alloc (.cells #[.slice none 0 0,.map none] 239)) w.heap.size (λk=>k=w.heap.size) [] :=
 ⟨rfl,λk h=>by simp;omega,by simp,by simp,by simp,by simp,.slice none 0 0,none,(MapKept.heap_alloc w _).1,⟨rfl,.inl ⟨rfl,rfl⟩⟩,λk h=>by simp[Value.ownBlock] at h,.inl ⟨rfl,rfl⟩⟩
end Go.Proofs.YtieciibnajeibaaGreatDoor.Wk
namespace Go.Proofs.YtieciibnajeibaaGreatDoor.Wk
def leT(a b:Tk):Prop:=lessT b a=false
theorem zi0(a b:Tk):leT a b↔a.wt<b.wt\/a.wt=b.wt/\a.n<=b.n:=by
 unfold leT lessT;rw[Bool.or_eq_false_iff,Bool.and_eq_false_iff];simp only[decide_eq_false_iff_not];omega
theorem zp3(a b:Tk):lessT a b=true↔a.wt<b.wt\/a.wt=b.wt/\a.n<b.n:=by
 unfold lessT;rw[Bool.or_eq_true,Bool.and_eq_true];simp only[decide_eq_true_eq]
theorem ziZ(a:Tk):leT a a:=(zi0 a a).2 (by omega)
variable{B i j n:Nat}{O:Nat->Prop}{a b t:Tk}{ts:List Tk}{w:World}
theorem zcG{c:Tk}(h:leT a b)(k:leT b c):leT a c:=by rw[zi0] at *;omega
theorem zdr(h:lessT a b=true):leT a b:=by rw[zp3] at h;rw[zi0];omega
theorem zlt(h:lessT a b=false):leT b a:=h
def par(i:Nat):Nat:=(i - 1) / 2
theorem zco(h:0<i):par i<i:=by unfold par;omega
def HeapN(ts:List Tk)(n:Nat):Prop:=∀ i,0<i->i<n->leT (ts.getD (par i) tk0) (ts.getD i tk0)
def zrA(ts:List Tk)(n j:Nat):Prop:=(∀ i,0<i->i<n->i≠j->leT (ts.getD (par i) tk0) (ts.getD i tk0))/\(∀ i,0<i->i<n->par i=j->0<j->leT (ts.getD (par j) tk0) (ts.getD i tk0))
def zhv(ts:List Tk)(n j:Nat):Prop:=(∀ i,0<i->i<n->par i≠j->leT (ts.getD (par i) tk0) (ts.getD i tk0))/\(∀ i,0<i->i<n->par i=j->0<j->leT (ts.getD (par j) tk0) (ts.getD i tk0))
theorem sw(ts:List Tk)(i j k:Nat)(hk:k<ts.length):(zbi ts i j).getD k tk0=if k=j then ts.getD i tk0 else if k=i then ts.getD j tk0 else ts.getD k tk0:=zl5 ts i j k hk
theorem zu5(hn:n<=ts.length)(hj:j<n)(h0:0<j)(h:zrA ts n j)(hl:lessT (ts.getD j tk0) (ts.getD (par j) tk0)=true):zrA (zbi ts (par j) j) n (par j):=by
 have hp:=zco h0;refine⟨λi hi hin hne=>?_,λi hi hin hpi hp0=>?_⟩
 · rw [sw ts (par j) j (par i) (by have := zco hi; omega), sw ts (par j) j i (by omega)];by_cases h1:i=j
   · subst h1;rw[if_neg (by omega),if_pos rfl,if_pos rfl];exact zdr hl
   · rw [if_neg h1, if_neg hne];by_cases h2:par i=j
     · rw[if_pos h2];exact h.2 i hi hin h2 h0
     · rw[if_neg h2];by_cases h3:par i=par j
       · rw[if_pos h3];have:=h.1 i hi hin h1;rw[h3] at this;exact zcG (zdr hl) this
       · rw[if_neg h3];exact h.1 i hi hin h1
 · rw[sw ts (par j) j (par (par j)) (by have:=zco hp0;omega),sw ts (par j) j i (by omega)];have hpp:=zco hp0;rw[if_neg (by omega),if_neg (by omega)];have hup:=h.1 (par j) hp0 (by omega) (by omega);by_cases h1:i=j
   · subst h1;rw[if_pos rfl];exact hup
   · rw[if_neg h1,if_neg (by have:=zco hi;omega)];have:=h.1 i hi hin h1;rw[hpi] at this;exact zcG hup this
theorem zoF(h:zrA ts n j)(hd:j=0\/lessT (ts.getD j tk0) (ts.getD (par j) tk0)=false):HeapN ts n:=by
 intro i hi hin;by_cases h1:i=j
 ·subst h1;rcases hd with rfl | hd
  ·omega
  ·exact zlt hd
 ·exact h.1 i hi hin h1
theorem up_heap(j:Nat):∀ (ts:List Tk) (n:Nat),n<=ts.length->j<n->zrA ts n j->HeapN (upL ts j) n:=by
 induction j using Nat.strongRecOn with
 | ind j ih =>
   intro ts n hn hj h;rw[zoH];by_cases h0:j=0
   ·rw[if_pos h0];exact zoF h (.inl h0)
   ·rw[if_neg h0]
    cases hl:lessT (ts.getD j tk0) (ts.getD ((j - 1) / 2) tk0)
    ·exact zoF h (.inr hl)
    ·exact ih ((j - 1) / 2) (by omega) _ n (by rw[zak];exact hn) (by omega) (zu5 hn hj (by omega) h hl)
theorem zkf(h:2 * i+1<n):par (zb5 ts n i)=i/\0<zb5 ts n i/\zb5 ts n i<n/\i<zb5 ts n i/\∀ k,0<k->k<n->par k=i->leT (ts.getD (zb5 ts n i) tk0) (ts.getD k tk0):=by
 have hc:=zfO ts n i;refine⟨by unfold par;omega,by omega,by omega,by omega,λk hk hkn hp=>?_⟩;have hk2:k=2 * i+1\/k=2 * i+2:=by unfold par at hp;omega
 unfold zb5
 split
 ·rename_i hq;rcases hk2 with rfl | rfl
  ·exact zdr hq.2
  ·exact ziZ _
 ·rename_i hq;rcases hk2 with rfl | rfl
  ·exact ziZ _
  ·cases hb:lessT (ts.getD (2 * i+2) tk0) (ts.getD (2 * i+1) tk0)
   ·exact zlt hb
   ·exact absurd ⟨hkn,hb⟩ hq
theorem zqK(hn:n<=ts.length)(hi:2 * i+1<n)(h:zhv ts n i)(hl:lessT (ts.getD (zb5 ts n i) tk0) (ts.getD i tk0)=true):zhv (zbi ts i (zb5 ts n i)) n (zb5 ts n i):=by
 obtain⟨k1,k2,k3,k4,k5⟩:=zkf (ts:=ts) hi;generalize zb5 ts n i=c at *;refine⟨λk hk hkn hne=>?_,λk hk hkn hpk _=>?_⟩
 ·have hpl:=zco hk;rw[sw ts i c (par k) (by omega),sw ts i c k (by omega),if_neg hne];by_cases h1:k=c
  ·subst h1;rw[if_pos k1,if_pos rfl];exact zdr hl
  · rw [if_neg h1];by_cases h2:k=i
    · subst h2;rw[if_neg (by omega),if_pos rfl];exact h.2 c k2 k3 k1 hk
    · rw[if_neg h2];by_cases h3:par k=i
      · rw[if_pos h3];exact k5 k hk hkn h3
      · rw[if_neg h3];exact h.1 k hk hkn h3
 ·have hpl:=zco hk;rw[k1,sw ts i c i (by omega),sw ts i c k (by omega),if_neg (by omega),if_pos rfl,if_neg (by omega),if_neg (by omega)];have:=h.1 k hk hkn (by omega);rw[hpk] at this;exact this
theorem zhh(h:zhv ts n i)(hd:¬ 2 * i+1<n\/lessT (ts.getD (zb5 ts n i) tk0) (ts.getD i tk0)=false):HeapN ts n:=by
 intro k hk hkn;by_cases h1:par k=i
 ·have h2:2 * i+1<n:=by unfold par at h1;omega
  rcases hd with hd | hd
  ·exact absurd h2 hd
  ·rw[h1];exact zcG (zlt hd) ((zkf h2).2.2.2.2 k hk hkn h1)
 ·exact h.1 k hk hkn h1
theorem zqL(f:Nat):∀ (ts:List Tk) (n i:Nat),n - i<=f->n<=ts.length->zhv ts n i->HeapN (zdC ts n i).1 n:=by
 induction f with
 | zero =>
   intro ts n i hf hn h;rw[zfp,if_neg (by omega)];exact zhh h (.inl (by omega))
 | succ f ih =>
   intro ts n i hf hn h;rw[zfp];by_cases h1:2 * i+1<n
   ·rw[if_pos h1]
    cases hl:lessT (ts.getD (zb5 ts n i) tk0) (ts.getD i tk0)
    ·exact zhh h (.inr hl)
    ·have hk:=zkf (ts:=ts) h1;exact ih _ n _ (by omega) (by rw[zak];exact hn) (zqK hn h1 h hl)
   ·rw[if_neg h1];exact zhh h (.inl h1)
theorem zrR(f:Nat):∀ (ts:List Tk) (j:Nat),j<ts.length->(upF f ts j).Perm ts:=by
 induction f with
 | zero=>intro ts j _;exact List.Perm.refl _
 | succ f ih =>
   intro ts j hj;show (if j=0 then ts else if lessT (ts.getD j tk0) (ts.getD ((j - 1) / 2) tk0) then upF f (zbi ts ((j - 1) / 2) j) ((j - 1) / 2) else ts).Perm ts
   split
   ·exact List.Perm.refl _
   ·split
    ·exact(ih _ _ (by rw[zak];omega)).trans (zea ts _ _ (by omega) hj)
    ·exact List.Perm.refl _
theorem upL_perm(ts:List Tk)(j:Nat)(hj:j<ts.length):(upL ts j).Perm ts:=zrR _ ts j hj
theorem zlI(f:Nat):∀ (ts:List Tk) (n i:Nat),n<=ts.length->i<ts.length->(zdW f ts n i).1.Perm ts/\∀ k,n<=k->k<ts.length->i<n->(zdW f ts n i).1.getD k tk0=ts.getD k tk0:=by
 induction f with
 | zero=>intro ts n i _ _;exact⟨List.Perm.refl _,λ_ _ _ _=>rfl⟩
 | succ f ih =>
   intro ts n i hn hi;show (if 2 * i+1<n then(if lessT (ts.getD (zb5 ts n i) tk0) (ts.getD i tk0) then zdW f (zbi ts i (zb5 ts n i)) n (zb5 ts n i) else(ts,i)) else(ts,i)).1.Perm ts/\_;by_cases h1:2 * i+1<n
   ·obtain⟨-,-,k3,k4,-⟩:=zkf (ts:=ts) h1;have e:(zdW (f+1) ts n i)=(if 2 * i+1<n then(if lessT (ts.getD (zb5 ts n i) tk0) (ts.getD i tk0) then zdW f (zbi ts i (zb5 ts n i)) n (zb5 ts n i) else(ts,i)) else(ts,i)):=rfl;rw[e,if_pos h1]
    cases hl:lessT (ts.getD (zb5 ts n i) tk0) (ts.getD i tk0)
    ·exact⟨List.Perm.refl _,λ_ _ _ _=>rfl⟩
    ·obtain⟨p1,p2⟩:=ih (zbi ts i (zb5 ts n i)) n (zb5 ts n i) (by rw[zak];exact hn) (by rw[zak];omega);refine⟨p1.trans (zea ts _ _ hi (by omega)),λk hk hkl hin=>?_⟩;refine(p2 k hk (by rw[zak];exact hkl) k3).trans ?_;rw[sw ts i _ k hkl,if_neg (by omega),if_neg (by omega)]
   ·have e:(zdW (f+1) ts n i)=(if 2 * i+1<n then(if lessT (ts.getD (zb5 ts n i) tk0) (ts.getD i tk0) then zdW f (zbi ts i (zb5 ts n i)) n (zb5 ts n i) else(ts,i)) else(ts,i)):=rfl;rw[e,if_neg h1];exact⟨List.Perm.refl _,λ_ _ _ _=>rfl⟩
theorem ztz(h:HeapN ts n):∀ i,i<n->leT (ts.getD 0 tk0) (ts.getD i tk0):=by
 intro i
 induction i using Nat.strongRecOn with
 | ind i ih =>
   intro hi;by_cases h0:i=0
   ·subst h0;exact ziZ _
   ·have hp:=zco (i:=i) (by omega);exact zcG (ih (par i) hp (by omega)) (h i (by omega) hi)
theorem zqm{a b:List Tk}(h:HeapN a n)(he:∀ i,i<n->a.getD i tk0=b.getD i tk0):HeapN b n:=λi hi hin=>by
 rw[<- he i hin,<- he (par i) (by have:=zco hi;omega)];exact h i hi hin
theorem push_heap(h:HeapN ts ts.length)(t:Tk):HeapN (upL (ts ++ [t]) ts.length) (ts.length+1)/\(upL (ts ++ [t]) ts.length).Perm (ts ++ [t]):=by
 refine⟨up_heap ts.length (ts ++ [t]) (ts.length+1) (by simp) (by omega) ⟨λi hi hin hne=>?_,λi hi hin hp _=>?_⟩,upL_perm _ _ (by simp)⟩
 ·have hpl:=zco hi;rw[zcf (by simp;omega),zcf (by simp;omega),if_neg (by omega),if_neg hne];exact h i hi (by omega)
 ·have:=zco hi;omega
theorem pop_heap{rest:List Tk}(h:HeapN ts ts.length)(hpos:0<ts.length)(hp:zjv ts=rest ++ [t]):HeapN rest rest.length/\(rest ++ [t]).Perm ts/\∀ x ∈ ts,leT t x:=by
 have hl:rest.length+1=ts.length:=by
  have:=congrArg List.length hp;unfold zjv at this;rw[zdV,zak] at this;simp at this;omega
 have hk:=zlI (ts.length - 1 - 0) (zbi ts 0 (ts.length - 1)) (ts.length - 1) 0 (by rw[zak];omega) (by rw[zak];omega);have hperm:(rest ++ [t]).Perm ts:=by
  rw[<- hp];unfold zjv zdC;exact hk.1.trans (zea ts _ _ hpos (by omega))
 have ht:t=ts.getD 0 tk0:=by
  have h1:(zjv ts).getD (ts.length - 1) tk0=ts.getD 0 tk0:=by
   by_cases h0:ts.length=1
   ·have e:zjv ts=zbi ts 0 (ts.length - 1):=by unfold zjv;rw[zfp,if_neg (by omega)]
    rw[e,sw ts 0 _ _ (by omega),if_pos rfl]
   ·have:=hk.2 (ts.length - 1) (Nat.le_refl _) (by rw[zak];omega) (by omega);unfold zjv zdC;rw[this,sw ts 0 _ _ (by omega),if_pos rfl]
  rw[hp,zcf (by simp;omega),if_pos (by omega)] at h1;exact h1
 refine⟨?_,hperm,λx hx=>?_⟩
 ·have hd:zhv (zbi ts 0 (ts.length - 1)) (ts.length - 1) 0:=by
   refine⟨λi hi hin hne=>?_,λ_ _ _ _ h0=>by omega⟩;have hpl:=zco hi;rw[sw ts 0 _ (par i) (by omega),sw ts 0 _ i (by omega),if_neg (by omega),if_neg (by omega),if_neg (by omega),if_neg (by omega)];exact h i hi (by omega)
  have:=zqL (ts.length - 1) _ (ts.length - 1) 0 (by omega) (by rw[zak];omega) hd;refine zqm (n:=rest.length) (a:=(zdC (zbi ts 0 (ts.length - 1)) (ts.length - 1) 0).1) (by rw[show ts.length - 1=rest.length by omega] at *;exact this) (λi hi=>?_);show (zjv ts).getD i tk0=_;rw[hp,zcf (by simp;omega),if_neg (by omega)]
 ·obtain⟨i,hi,rfl⟩:=List.mem_iff_getElem.1 hx;rw[ht,<- tkD hi];exact ztz h i hi
theorem fix_heap(h:HeapN ts ts.length)(i:Nat)(hi:i<ts.length)(wt:Int)(hw:wt<=(ts.getD i tk0).wt) :
 zrA (ts.set i ⟨(ts.getD i tk0).at_,(ts.getD i tk0).n,wt⟩) ts.length i/\∀ k,0<k->k<ts.length->par k=i->leT ⟨(ts.getD i tk0).at_,(ts.getD i tk0).n,wt⟩ (ts.getD k tk0):=by
 have at_:∀ k,k<ts.length->(ts.set i ⟨(ts.getD i tk0).at_,(ts.getD i tk0).n,wt⟩).getD k tk0=if k=i then⟨(ts.getD i tk0).at_,(ts.getD i tk0).n,wt⟩ else ts.getD k tk0:=λk hk=>by
  rw[tkD (by simpa using hk),List.getElem_set];by_cases e:k=i
  ·subst e;simp
  ·rw[if_neg (λe'=>e e'.symm),if_neg e,tkD hk]
 have hle:leT ⟨(ts.getD i tk0).at_,(ts.getD i tk0).n,wt⟩ (ts.getD i tk0):=by rw[zi0];simp only;omega
 refine⟨⟨λk hk hkn hne=>?_,λk hk hkn hp h0=>?_⟩,λk hk hkn hp=>?_⟩
 ·have hpl:=zco hk;rw[at_ k hkn,at_ (par k) (by omega),if_neg hne];have hb:=h k hk hkn;by_cases e:par k=i
  ·rw[if_pos e];rw[e] at hb;exact zcG hle hb
  ·rw[if_neg e];exact hb
 ·have hpl:=zco hk;have hpl2:=zco h0;rw[at_ k hkn,at_ (par i) (by omega),if_neg (by omega),if_neg (by omega)];have a:=h i h0 hi;have b:=h k hk hkn;rw[hp] at b;exact zcG a b
 ·have b:=h k hk hkn;rw[hp] at b;exact zcG hle b
open Go.Maps Go.RowKit
def lighter(ts:List Tk)(i:Nat)(wt:Int):List Tk:=ts.set i ⟨(ts.getD i tk0).at_,(ts.getD i tk0).n,wt⟩
theorem lighter_length(ts:List Tk)(i:Nat)(wt:Int):(lighter ts i wt).length=ts.length:=by simp[lighter]
theorem zej(ts:List Tk)(i:Nat)(wt:Int)(k:Nat)(hk:k<ts.length):(lighter ts i wt).getD k tk0=if k=i then⟨(ts.getD i tk0).at_,(ts.getD i tk0).n,wt⟩ else ts.getD k tk0:=by
 unfold lighter;rw[tkD (by simpa using hk),List.getElem_set];by_cases e:k=i
 ·subst e;simp
 ·rw[if_neg (λe'=>e e'.symm),if_neg e,tkD hk]
theorem zcF{α:Type}(f:Tk->α)(hf:∀ a n x y,f ⟨a,n,x⟩=f ⟨a,n,y⟩)(ts:List Tk)(i:Nat)(wt:Int)(hi:i<ts.length):(lighter ts i wt).map f=ts.map f:=by
 unfold lighter;rw[List.map_set];have e:f ⟨(ts.getD i tk0).at_,(ts.getD i tk0).n,wt⟩=(ts.map f)[i]'(by simpa using hi):=by
  rw[List.getElem_map,tkD hi];exact hf _ _ _ _
 rw[e,List.set_getElem_self]
theorem zg2{wt:Int}(h:t ∈ lighter ts i wt)(hi:i<ts.length):∃ s ∈ ts,t.at_=s.at_/\t.n=s.n/\(t.wt=s.wt\/t.wt=wt):=by
 obtain⟨k,hk,rfl⟩:=List.mem_iff_getElem.1 h;rw[lighter_length] at hk;have hm:ts.getD k tk0 ∈ ts:=by rw[tkD (ts:=ts) hk];exact List.getElem_mem _
 rw[<- tkD (by rw[lighter_length];exact hk),zej ts i wt k hk];by_cases e:k=i
 ·subst e;rw[if_pos rfl];exact⟨ts.getD k tk0,hm,rfl,rfl,.inr rfl⟩
 ·rw[if_neg e];exact⟨ts.getD k tk0,hm,rfl,rfl,.inl rfl⟩
theorem zi8(ts:List Tk)(i:Nat)(wt:Int)(hi:i<ts.length)(hn:(ts.map Tk.n).Nodup)(n:Int):zbz (lighter ts i wt) n=zbz ts n:=by
 have hm:=zcF Tk.n (λ_ _ _ _=>rfl) ts i wt hi;by_cases h:n ∈ ts.map Tk.n
 ·have h':n ∈ (lighter ts i wt).map Tk.n:=by rw[hm];exact h
  obtain⟨t,ht,rfl⟩:=List.mem_map.1 h';obtain⟨s,hs,e1,e2,-⟩:=zg2 ht hi;rw[zdU (by rw[hm];exact hn) ht,e2,zdU hn hs,e1]
 ·rw[zde h,zde (by rw[hm];exact h)]
theorem zlp(h:LstIs w B O ts)(i:Nat)(hi:i<ts.length)(wt:Int)(hw : -9223372036854775808<=wt/\wt<=9223372036854775807) :
 Off O w (w.setCell ⟨(ts.getD i tk0).at_,1,none⟩ (.int .i64 wt))/\LstIs (w.setCell ⟨(ts.getD i tk0).at_,1,none⟩ (.int .i64 wt)) B O (lighter ts i wt):=by
 have hb:=(h.tasks i hi).2;have ho:Off O w (w.setCell ⟨(ts.getD i tk0).at_,1,none⟩ (.int .i64 wt)):=zaL (zaJ _ _) (p:=⟨(ts.getD i tk0).at_,1,none⟩) (.inl (h.tasks i hi).1) _;obtain⟨sv,mo,hB,hr,hsv,hm⟩:=h.lies;have n1:=zbd hb hr (by decide);have n2:B≠(ts.getD i tk0).at_:=(zcS hb hB (by decide)).symm;refine⟨ho,h.own,λk hk=>Nat.lt_of_lt_of_le (h.lt k hk) ho.size,λt ht=>?_,?_,?_,λk hk=>?_,sv,mo,(Below.heap_setCell w ⟨(ts.getD i tk0).at_,1,none⟩ _ B n2).trans hB,?_,hsv,?_⟩
 ·obtain⟨s,hs,e1,e2,e3⟩:=zg2 ht hi;have:=h.nums s hs;rw[e2];refine⟨this.1,this.2.1,?_⟩;rcases e3 with e3 | e3 <;> omega
 ·rw[zcF Tk.n (λ_ _ _ _=>rfl) ts i wt hi];exact h.apart
 ·rw[zcF Tk.at_ (λ_ _ _ _=>rfl) ts i wt hi];exact h.blocks
 ·rw[lighter_length] at hk;rw[zej ts i wt k hk];by_cases e:k=i
  ·subst e;rw[if_pos rfl];exact⟨(h.tasks k hk).1,block_set (i:=1) hb (.int .i64 wt)⟩
  ·rw[if_neg e];exact⟨(h.tasks k hk).1,(Below.heap_setCell w ⟨(ts.getD i tk0).at_,1,none⟩ _ _ (λe'=>e (zik h.blocks hk hi e'))).trans (h.tasks k hk).2⟩
 ·rw[lighter_length,zcF zcO (λ_ _ _ _=>rfl) ts i wt hi];exact own_off (O:=λk=>k=(ts.getD i tk0).at_) hr (zaL (O:=λk=>k=(ts.getD i tk0).at_) (zaJ _ _) (p:=⟨(ts.getD i tk0).at_,1,none⟩) (.inl rfl) _) (λk hk e=>n1 (e▸hk))
 ·rcases hm with ⟨rfl,h0⟩ | ⟨mb,D,N,rfl,hO,hN,hmap,hTd,hSz,hD⟩
  ·subst h0;simp at hi
  ·refine .inr ⟨mb,D,N,rfl,hO,hN,hmap.setCell (a:=⟨(ts.getD i tk0).at_,1,none⟩) (zb1 hb hmap) _,hTd,by rw[lighter_length];exact hSz,λn=>?_⟩;rw[(hD n).1,(hD n).2,zi8 ts i wt hi h.apart,zcF Tk.n (λ_ _ _ _=>rfl) ts i wt hi];exact⟨rfl,rfl⟩
theorem zwz(B:Nat)(O:Nat->Prop)(ts:List Tk)(i:Nat)(hi:i<ts.length)(hlen:ts.length<=1048576)(hd:zdC ts ts.length i=(ts,i))(w:World)(h:LstIs w B O ts) :
 Calls Tryz.prog 205 #[.iface 248 (.pointer (some ⟨B,0,none⟩)),.int .i64 i] w λe w'=>e=.returned (.tuple #[])/\Off O w w'/\LstIs w' B O (upL ts i):=by
 have HLn:=zaa (zgj B O ts w h);have HD:=zaa (zmU B O ts ts.length i hi (Nat.le_refl _) hlen w h);rw[hd,show decide ((i:Int)<((ts,i):List Tk × Nat).2)=false by simp] at HD;have HU:=zaa (λw1 hl=>zup B O ts i hi hlen w1 hl);clear h hd;go_enter Tryz.func205,Tryz.ntmps205;go_wp2_with fail;refine(uh HLn).mono ?_;rintro e w1 ⟨rfl,hw⟩;obtain rfl:=hw.symm;go_wp2_with fail;refine(uh HD).mono ?_;rintro e w1 ⟨rfl,ho1,hs1,hl1⟩;have HU1:=zaa (uh HU w1 hl1);have Ho1:=zaa ho1;clear ho1 hl1 HU HD;go_wp2_with fail;refine(uh HU1).mono ?_;rintro e w2 ⟨rfl,ho2,hs2,hl2⟩;have Ho2:=zaa ho2;have Hl2:=zaa hl2;clear ho2 hl2 HU1;go_wp2
 go_end0
 exact⟨rfl,zgR (uh Ho1) (uh Ho2),uh Hl2⟩
theorem zod(h:∀ k,0<k->k<n->par k=i->leT (ts.getD i tk0) (ts.getD k tk0)):zdC ts n i=(ts,i):=by
 rw[zfp];by_cases h1:2 * i+1<n
 ·obtain⟨k1,k2,k3,-⟩:=zkf (ts:=ts) h1;rw[if_pos h1,if_neg];rw[show lessT (ts.getD (zb5 ts n i) tk0) (ts.getD i tk0)=false from h _ k2 k3 k1];simp
 ·rw[if_neg h1]
theorem zlq(B:Nat)(O:Nat->Prop)(ts:List Tk)(i:Nat)(hi:i<ts.length)(hlen:ts.length<=1048576)(hh:HeapN ts ts.length)(wt:Int)(hw : -9223372036854775808<=wt/\wt<=9223372036854775807)(w:World)(h:LstIs w B O ts) :
 Calls Tryz.prog 165 #[.iface 248 (.pointer (some ⟨B,0,none⟩)),.pointer (some ⟨(ts.getD i tk0).at_,0,none⟩),.int .i64 wt] w λe w'=>e=.returned (.tuple #[])/\Off O w w' /\
  LstIs w' B O (if wt<(ts.getD i tk0).wt then upL (lighter ts i wt) i else ts):=by
 obtain⟨-,a1,a2⟩:=zfd h i hi;have f1:w.frozen? ⟨(ts.getD i tk0).at_,1,none⟩=false:=frozen_block (h.tasks i hi).2 1;by_cases hlt:wt<(ts.getD i tk0).wt
 ·obtain⟨ho,hl⟩:=zlp h i hi wt hw;have hf:=(fix_heap hh i hi wt (by omega)).2;have hds:zdC (lighter ts i wt) (lighter ts i wt).length i=(lighter ts i wt,i):=by
   rw[lighter_length];refine zod (λk hk hkn hp=>?_);rw[zej ts i wt i hi,if_pos rfl,zej ts i wt k hkn,if_neg (by have:=zco hk;omega)];exact hf k hk hkn hp
  have HF:=zaa (zwz B O (lighter ts i wt) i (by rw[lighter_length];exact hi) (by rw[lighter_length];exact hlen) hds _ hl);rw[if_pos hlt];have Ho:=zaa ho;have hi':(i:Int)<1048576:=by omega
  clear h hl hds ho hf hh;generalize (ts.getD i tk0).at_=T at *;generalize (ts.getD i tk0).wt=z at *;go_enter Tryz.func165,Tryz.ntmps165;go_wp2_with (go_at_call 205;refine(uh HF).mono ?_;rintro e w2 ⟨rfl,ho2,hl2⟩;have Ho2:=zaa ho2;have Hl2:=zaa hl2;clear ho2 hl2)
  go_end0
  exact⟨rfl,zgR (uh Ho) (uh Ho2),uh Hl2⟩
 ·rw[if_neg hlt];have HL:=zaa h;clear h hh;generalize (ts.getD i tk0).at_=T at *;generalize (ts.getD i tk0).wt=z at *;go_enter Tryz.func165,Tryz.ntmps165;go_wp2
  go_end0
  exact⟨rfl,zaJ _ _,uh HL⟩
theorem zp0(h:LstIs w B O ts)(hi:i<ts.length):∃ m,w.cell? ⟨B,1,none⟩=some (.map m)/\(Instr.lookup 235 (.map m) (.int .i64 (ts.getD i tk0).n) false).run Tryz.prog w=.ok (.pointer (some ⟨(ts.getD i tk0).at_,0,none⟩)) w:=by
 have hmem:ts.getD i tk0 ∈ ts:=by rw[tkD hi];exact List.getElem_mem _
 have hnum:=h.nums _ hmem;obtain⟨sv,mo,hB,hr,hsv,hm⟩:=h.lies;have hk:=keyOf_int_mk Tryz.underlying3 (WalkArith.wf_i64 (n:=(ts.getD i tk0).n) (by omega));refine⟨mo,cell_block hB 1 _ rfl,?_⟩;rcases hm with ⟨rfl,h0⟩ | ⟨mb,D,N,rfl,hO,hN,hmap,hTd,hSz,hD⟩
 ·subst h0;simp at hi
 ·obtain⟨v,ps,hrun,hv⟩:=hmap.lookup zke Tryz.underlying235 (zov _) (zd:=.lit (.int .i64 0)) (zp:=[]) rfl hk;rw[(hD _).2,zdU h.apart hmem] at hv;rw[hrun,zvr hv]
theorem push_old(B:Nat)(O:Nat->Prop)(ts:List Tk)(i:Nat)(hi:i<ts.length)(hlen:ts.length<=1048576)(hh:HeapN ts ts.length)(wt:Int)(hw : -9223372036854775808<=wt/\wt<=9223372036854775807)(w:World)(h:LstIs w B O ts) :
 Calls Tryz.prog 118 #[.pointer (some ⟨B,0,none⟩),.int .i64 (ts.getD i tk0).n,.int .i64 wt] w λe w'=>e=.returned (.tuple #[.bool false,.int .i64 0])/\Off O w w' /\
  LstIs w' B O (if wt<(ts.getD i tk0).wt then upL (lighter ts i wt) i else ts):=by
 have hmem:ts.getD i tk0 ∈ ts:=by rw[tkD hi];exact List.getElem_mem _
 have hnum:=h.nums _ hmem;have HN:=zaa (zdP (ts.getD i tk0).n w);rw[show decide (0<=(ts.getD i tk0).n/\(ts.getD i tk0).n<1048576)=true by simpa using ⟨hnum.1,hnum.2.1⟩] at HN;obtain⟨m,cm,hq⟩:=zp0 h hi;have HL:=zaa (zlq B O ts i hi hlen hh wt hw w h);clear h hmem hnum hh;generalize (if wt<(ts.getD i tk0).wt then upL (lighter ts i wt) i else ts)=ts' at *;generalize ts.getD i tk0=t at *;go_enter Tryz.func118,Tryz.ntmps118;go_wp2_with (first | (go_at_call 164;refine(uh HN).mono ?_;rintro e w2 ⟨rfl,hw⟩;obtain rfl:=hw.symm) | (go_at_call 165;refine(uh HL).mono ?_;rintro e w2 ⟨rfl,ho2,hl2⟩;have Ho2:=zaa ho2;have Hl2:=zaa hl2;clear ho2 hl2))
 go_ret2
 exact⟨rfl,uh Ho2,uh Hl2⟩
end Go.Proofs.YtieciibnajeibaaGreatDoor.Wk

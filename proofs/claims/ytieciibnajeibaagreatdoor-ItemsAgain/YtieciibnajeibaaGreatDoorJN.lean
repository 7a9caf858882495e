import Derived.Test.YtieciibnajeibaaGreatDoorIZ
import Derived.Test.YtieciibnajeibaaGreatDoorWkS9
set_option maxHeartbeats 8000000
set_option maxRecDepth 100000
namespace Go.Proofs.YtieciibnajeibaaGreatDoor
open Go.RowKit Go.Sort Go.Lib
def zjw(w:World)(g cap:Nat)(l:List It):Prop:=∃ cu:List Value,w.heap[g]? = some (.cells cu.toArray 57 (0,0))/\cu.length=cap * 3/\l.length<=cap/\cap<=maxLen/\cu.take (l.length * 3)=zaE l
variable{cap g:Nat}{l:List It}{v:Value}{w:World}
theorem zlT(h:zjw w g cap l):g<w.heap.size:=by
 obtain⟨cu,h,_⟩:=h;exact(zsO.1 h).1
theorem zxa{w':World}(h:zjw w g cap l)(e:w'.heap[g]? = w.heap[g]?):zjw w' g cap l:=by
 obtain⟨cu,h,h2⟩:=h;exact⟨cu,e.trans h,h2⟩
theorem zjk{B:Nat}(h:w.ownsRow B 57 3 v l.length (zaE l))(hn:l≠[]):∃ g cap,v=.slice (some ⟨g,0,none⟩) l.length cap/\B<=g/\zjw w g cap l:=by
 rcases h.2 with ⟨rfl,h0⟩ | ⟨g,cap,cur,rfl,h2,h3,h4,h5,h6,h7⟩
 ·exact absurd (List.length_eq_zero_iff.1 h0) hn
 ·exact⟨g,cap,rfl,h2,cur.toList,h3,by simpa using h6,h4,h5,h7⟩
theorem zjl(h:zjw w g cap l){i:Nat}(hi:(zaE l)[i]? = some v):w.cell? ⟨g,i,none⟩=some v:=by
 obtain⟨cu,h1,h2,h3,h4,h5⟩:=h;refine Wk.cell_block h1 _ _ ?_;rw[<- h5,List.getElem?_take] at hi
 split at hi
 ·simpa using hi
 ·cases hi
theorem zbk(h:zjw w g cap l){j:Nat}(hj:j<l.length):w.cell? ⟨g,j * 3,none⟩=some (.int .i64 (l.getD j it0).1)/\w.cell? ⟨g,j * 3+1,none⟩=some (.int .i64 (l.getD j it0).2.1)/\w.cell? ⟨g,j * 3+2,none⟩=some (.int .i64 (l.getD j it0).2.2):=by
 obtain⟨f0,f1,f2⟩:=zgv l j hj;exact⟨zjl h f0,zjl h f1,zjl h f2⟩
theorem zub{m:List It}(h:zjw w g cap l)(hm:l.take m.length=m)(hl:m.length<=l.length):zcy w.heap.size w (some ⟨g,0,none⟩) m:=by
 refine .inr ⟨g,0,rfl,zlT h,λj hj=>?_⟩;have e:m.getD j it0=l.getD j it0:=by
  rw[zsE,zsE,<- hm,List.getElem?_take,if_pos hj]
 rw[e,Nat.zero_add];exact zbk h (by omega)
theorem zkr(l:List It)(t:Nat)(ht:t<l.length * 3):(zaE l)[t]? = some ((zqG l.toArray[t / 3]!)[t % 3]!):=by
 have hj:t / 3<l.length:=by omega
 have h:=zgv l (t / 3) hj;have e:l.toArray[t / 3]! = l.getD (t / 3) it0:=by
  rw[getElem!_pos _ _ (by simpa using hj)];simp[List.getD_eq_getElem?_getD,List.getElem?_eq_getElem hj]
 rw[e];have h2:t % 3=0\/t % 3=1\/t % 3=2:=by omega
 rcases h2 with h2 | h2 | h2
 ·rw[h2];have:=h.1;rw[show t / 3 * 3=t by omega] at this;rw[this];rfl
 ·rw[h2];have:=h.2.1;rw[show t / 3 * 3+1=t by omega] at this;rw[this];rfl
 ·rw[h2];have:=h.2.2;rw[show t / 3 * 3+2=t by omega] at this;rw[this];rfl
theorem zih(B:Nat)(a:Option Addr)(cap:Nat)(l:List It)(hl:l.length<=5864062014805)(w:World)(hBw:B<=w.heap.size)(hrow:zcy B w a l) :
 Calls Tryz.prog 70 #[.slice a l.length cap] w λe w'=>∃ v,e=.returned v/\w'.ownsRow w.heap.size 57 3 v l.length (zaE l)/\Below w.heap.size w w':=by
 obtain⟨i0,hi,hz0,hz1,hz2⟩:=zah zh6;have q27:∀ (w:World) (a:Option Addr) (n c n' c':Nat),(binOp .eql 27 (.slice a n c) (.slice none n' c')).run Tryz.prog w=.ok (.bool a.isNone) w:=λw a n c n' c'=>Lib.run_eql_slice_nil w _ _ a n c n' c' Tryz.underlying27
 cases a with
 | none =>
   have h0:l=[]:=by
    rcases hrow with h | ⟨b,off,h,_⟩
    ·exact h
    ·cases h
   subst h0;go_enter Tryz.func70,Tryz.ntmps70;go_wp2;go_ret;exact⟨_,rfl,⟨rfl,.inl ⟨rfl,rfl⟩⟩,zsY _ _⟩
 | some ad =>
   have Hc:Hid (∀ (o:Obj) j u,(zaE l)[j]? = some u->(w.alloc o).cell? (ad.add j)=some u):=zaa λo j u hj=>by
    rcases hrow with rfl | ⟨b,off,h,hlt,hc⟩
    ·simp[zaE] at hj
    ·cases h
     have hj2:j<l.length * 3:=by
      have:=(zsP.1 hj).1
      rwa [zbU] at this
     have e:(⟨b,off,none⟩:Addr).add j=⟨b,off+j,none⟩:=by unfold Addr.add;split <;> simp_all
     rw[e,World.cell?_alloc_lt _ _ _ (by show b<_;omega)];have f:=zgv l (j / 3) (by omega);have g:=hc (j / 3) (by omega);have h2:j % 3=0\/j % 3=1\/j % 3=2:=by omega
     rcases h2 with h2 | h2 | h2
     ·rw[show j / 3 * 3=j by omega] at f g;rw[f.1] at hj;cases hj;exact g.1
     ·rw[show off+j / 3 * 3+1=off+j by omega] at g;rw[show j / 3 * 3+1=j by omega] at f;rw[f.2.1] at hj;cases hj;exact g.2.1
     ·rw[show off+j / 3 * 3+2=off+j by omega] at g;rw[show j / 3 * 3+2=j by omega] at f;rw[f.2.2] at hj;cases hj;exact g.2.2
   clear hrow;go_enter Tryz.func70,Tryz.ntmps70;go_wp2_with (at_builtin;refine wpList_append_own _ rfl _ _ 27 rfl w.heap.size 57 i0 (.agg #[.int .i64 0,.int .i64 0,.int .i64 0]) 3 24 Tryz.underlying27 hi hz0 hz1 hz2 rfl (by decide) _ _ _ rfl (World.ownsRow_made w #[] 0 (zsG _) (zsK _) (by simp)) ad l.length cap (zaE l) rfl ?qc1 ?qc2 ?qc3 ?qc4 ?qc5 ?qc6 ?_)
   case qc1=>exact zbU l
   case qc2=>exact uh Hc _
   case qc3=>exact zfo l
   case qc4=>unfold maxLen;omega
   case qc5=>omega
   case qc6=>simp
   intro v' w1 hown hgrow hnil;go_wp2;go_ret;refine⟨v',rfl,by simpa using hown,?_⟩;exact((zsY _ w).alloc (zsG _) _).grown hgrow (by simp) (by intro k hk;simp[Value.ownBlock] at hk;omega)
def zk5(l:List It):List It:=l.mergeSort λx y=>!ltOf zdD y x
theorem zjH(l:List It):(zk5 l).Perm l:=List.mergeSort_perm l _
theorem zcN(l:List It):(zk5 l).length=l.length:=(zjH l).length_eq
theorem totI(x y:It)(h1:ltOf zdD x y=false)(h2:ltOf zdD y x=false):x=y:=by
 rw[zcY] at h1 h2;simp only[decide_eq_false_iff_not] at h1 h2;rcases zgV x y with h | h | h
 ·exact absurd h h1
 ·exact h
 ·exact absurd h h2
theorem zvi(l:List It):(zk5 l).Pairwise λx y=>¬ ltI y x:=by
 have h:=List.pairwise_mergeSort (le:=λx y:It=>!ltOf zdD y x) (λa b c h1 h2=>by
  simp only[zcY,Bool.not_eq_true',decide_eq_false_iff_not] at *;intro h;rcases zgV a b with k | k | k
  ·exact h2 (zbr h k)
  ·subst k;exact h2 h
  ·exact h1 k) (λa b=>by
  simp only[zcY,Bool.or_eq_true,Bool.not_eq_true',decide_eq_false_iff_not];by_cases h:ltI b a
  ·exact .inr (zgW h)
  ·exact .inl h) l
 refine h.imp fun {x y} h=>?_;simpa only[zcY,Bool.not_eq_true',decide_eq_false_iff_not] using h
theorem zo2(g cap:Nat)(l:List It)(w:World)(hb:zjw w g cap l)(hl:l.length<=5864062014805) :
 Calls Tryz.prog 71 #[.slice (some ⟨g,0,none⟩) l.length cap,.func (.func 72) #[] #[]] w λe w'=>e=.returned (.tuple #[])/\zjw w' g cap (zk5 l)/\Fr (· = g) w w':=by
 have eg:∀ args w,(callFunc 72 args).run Tryz.prog w=.ok (.enter 72 args) w:=enters_of Tryz.func72 (by kernel_rfl) rfl;have hg:=zlT hb;obtain⟨cu,h1,h2,h3,h4,h5⟩:=id hb;have hH:HoldsK zqG 3 w g 0 l.toArray:=by
  intro j hj;rw[size_flatK] at hj;have hj':j<l.length * 3:=by simpa using hj
  rw[get_flatK _ _ _ _ hj,Nat.zero_add];exact⟨zjl hb (zkr l j hj'),Wk.frozen_block h1 j⟩
 have h:=AnyQ.slices_SortFunc_total Tryz.sortI 3 Tryz.isAgg57 Tryz.sizeOf57 zqG (λ_=>rfl) (λx v hv=>by simp[zqG] at hv;rcases hv with rfl | rfl | rfl <;> rfl) zdD swoI 72 #[] g 0 cap l.toArray w eg (ztX g 0 l.toArray.size w) hH hg (by simp;omega) totI;simp only[List.size_toArray] at h;refine Calls.mono h ?_;rintro e w' ⟨rfl,n,os,rfl⟩;have hblk:∀ k,k<w.heap.size->(sortWorldK zqG 3 w g 0 n (zk5 l).toArray os).heap[k]? = (w.heap.modify g (λo=>match o with | .cells c t f=>.cells (putCells id 0 (flatK zqG 3 (zk5 l).toArray) c) t f | o=>o))[k]?:=λk hk=>by
  show ((Sort.putRow id (Sort.ahead w n) g 0 (flatK zqG 3 (zk5 l).toArray)).heap ++ os)[k]? = _;rw[Array.getElem?_append_left (by rw[size_putRow];show k<w.heap.size;omega)];rfl
 refine⟨rfl,⟨(putCells id 0 (flatK zqG 3 (zk5 l).toArray) cu.toArray).toList,?_,?_,?_,h4,?_⟩,size_sortWorldK_c zqG 3 w g 0 n _ os,λk hk ho=>?_,rfl,rfl,rfl⟩
 ·refine(hblk g hg).trans ?_;rw[Array.getElem?_modify,if_pos rfl,h1];rfl
 ·simp[putCells,h2]
 ·rw[zcN];exact h3
 ·refine List.ext_getElem? λj=>?_;rw[List.getElem?_take,zcN];by_cases hj:j<l.length * 3
  ·rw[if_pos hj,zkr _ _ (by rw[zcN];exact hj)];have hjc:j<cu.length:=by omega
   have hF:j<(flatK zqG 3 (zk5 l).toArray).size:=by simp[zcN];omega
   simp only[putCells,Array.getElem?_toList,Array.getElem?_mapIdx,List.getElem?_toArray,zsF hjc,Option.map_some,Nat.zero_add];rw[if_pos ⟨zsK _,hF⟩,Nat.sub_zero,get_flatK _ _ _ _ (by simpa using hF)];rfl
  ·rw[if_neg hj,List.getElem?_eq_none (by rw[zbU,zcN];omega)]
 ·refine(hblk k hk).trans ?_;rw[Array.getElem?_modify,if_neg (by exact λe=>ho e.symm)]
end Go.Proofs.YtieciibnajeibaaGreatDoor
namespace Go.Proofs.YtieciibnajeibaaGreatDoor
open Go.RowKit Go.Lib
def cuI(l:List It):Nat->List It
 | 0=>[]
 | m+1=>cuI l m ++ (if m=0\/l.getD m it0≠l.getD (m - 1) it0 then[l.getD m it0] else[])
variable{B cap g kk m:Nat}{M l:List It}{w:World}
theorem zja(h:m=0\/l.getD m it0≠l.getD (m - 1) it0):cuI l (m+1)=cuI l m ++ [l.getD m it0]:=by
 show cuI l m ++ _=_;rw[if_pos h]
theorem zmW(h0:0<m)(h:l.getD m it0=l.getD (m - 1) it0):cuI l (m+1)=cuI l m:=by
 show cuI l m ++ _=_;rw[if_neg (by rintro(h1 | h1);omega;exact h1 h),List.append_nil]
theorem zjb{l:List It}:∀ {m:Nat},(∀ j,0<j->j<m->l.getD j it0≠l.getD (j - 1) it0)->m<=l.length->cuI l m=l.take m
 | 0,_,_=>rfl
 | m+1,h,hm=>by
   rw[zja (by by_cases e:m=0;exact .inl e;exact .inr (h m (by omega) (by omega))),zjb (λj h0 h1=>h j h0 (by omega)) (by omega),zsU,zsF (by omega)];simp[List.getD_eq_getElem?_getD,List.getElem?_eq_getElem (show m<l.length by omega)]
def zou(l M:List It)(m kk:Nat):Prop:=M.length=l.length/\M.take kk=cuI l m/\kk<m/\m<=l.length/\∀ j,m<=j+1->j<l.length->M.getD j it0=l.getD j it0
theorem zlM{k:Nat}(h0:0<k)(hk:k<l.length)(h:∀ j,0<j->j<k->l.getD j it0≠l.getD (j - 1) it0)(he:l.getD k it0=l.getD (k - 1) it0):zou l l (k+1) k :=
 ⟨rfl,by rw[zmW h0 he,zjb h (by omega)],by omega,by omega,λ_ _ _=>rfl⟩
theorem ztY(h:zou l M m kk)(hm:m<l.length)(he:l.getD m it0=l.getD (m - 1) it0):zou l M (m+1) kk :=
 ⟨h.1,by rw[zmW (by have:=h.2.2.1;omega) he];exact h.2.1,by have:=h.2.2.1;omega,by omega,λj hj=>h.2.2.2.2 j (by omega)⟩
theorem zqY(h:zou l M m kk)(hm:m<l.length)(he:l.getD m it0≠l.getD (m - 1) it0):zou l (M.set kk (l.getD m it0)) (m+1) (kk+1):=by
 obtain⟨h1,h2,h3,h4,h5⟩:=h;refine⟨by simpa using h1,?_,by omega,by omega,λj hj hl=>?_⟩
 ·rw[zja (.inr he),<- h2,zsU,List.take_set_of_le (by omega),List.getElem?_set_self (by omega)];rfl
 ·rw[<- h5 j (by omega) hl,zsE,zsE (l:=M),List.getElem?_set_ne (by omega)]
theorem zlK{l:List It}{x:It}:∀ {m:Nat},m<=l.length->(x ∈ cuI l m↔x ∈ l.take m)
 | 0,_=>by simp[cuI]
 | m+1,hm=>by
   have e:l.take (m+1)=l.take m ++ [l.getD m it0]:=by
    rw[zsU,zsF (by omega)];simp[List.getD_eq_getElem?_getD,List.getElem?_eq_getElem (show m<l.length by omega)]
   by_cases h:m=0\/l.getD m it0≠l.getD (m - 1) it0
   ·rw[zja h,e,List.mem_append,List.mem_append,zlK (by omega)]
   ·have h0:0<m:=Nat.pos_of_ne_zero λe=>h (.inl e);have h1:l.getD m it0=l.getD (m - 1) it0:=by
     by_cases e:l.getD m it0=l.getD (m - 1) it0
     ·exact e
     ·exact absurd (.inr e) h
    rw[zmW h0 h1,e,List.mem_append,zlK (by omega)];constructor
    ·exact .inl
    ·rintro(hx | hx)
     ·exact hx
     ·rw[List.mem_singleton] at hx;rw[hx,h1];refine List.mem_iff_getElem?.2 ⟨m - 1,?_⟩;rw[List.getElem?_take,if_pos (by omega),zsE,zsF (by omega)];rfl
theorem zuL{l:List It}(h:l.Pairwise λx y=>¬ ltI y x):∀ {m:Nat},m<=l.length->UpI (cuI l m)/\∀ x,x ∈ cuI l m->m=0\/ltI x (l.getD (m - 1) it0)\/x=l.getD (m - 1) it0
 | 0,_=>⟨List.Pairwise.nil,λx hx=>.inl rfl⟩
 | m+1,hm=>by
   obtain⟨i1,i2⟩:=zuL h (m:=m) (by omega);have hle:0<m->¬ ltI (l.getD m it0) (l.getD (m - 1) it0):=λh0=>by
    rw[zsE,zsE,zsF (show m<l.length by omega),zsF (show m - 1<l.length by omega)];exact List.pairwise_iff_getElem.1 h (m - 1) m (by omega) (by omega) (by omega)
   by_cases hk:m=0\/l.getD m it0≠l.getD (m - 1) it0
   ·have hx:∀ x,x ∈ cuI l m->ltI x (l.getD m it0):=λx hx=>by
     have h0:0<m:=Nat.pos_of_ne_zero λe=>by subst e;simp[cuI] at hx
     have hlt:ltI (l.getD (m - 1) it0) (l.getD m it0):=by
      rcases zgV (l.getD (m - 1) it0) (l.getD m it0) with k | k | k
      ·exact k
      ·exact absurd k.symm (hk.resolve_left (by omega))
      ·exact absurd k (hle h0)
     rcases i2 x hx with e | e | e
     ·omega
     ·exact zbr e hlt
     ·rw[e];exact hlt
    rw[zja hk];refine⟨zrP i1 hx,λx hx'=>.inr ?_⟩;rw[Nat.add_sub_cancel];rcases List.mem_append.1 hx' with e | e
    ·exact .inl (hx x e)
    ·exact .inr (List.mem_singleton.1 e)
   ·have h0:0<m:=Nat.pos_of_ne_zero λe=>hk (.inl e);have h1:l.getD m it0=l.getD (m - 1) it0:=by
     by_cases e:l.getD m it0=l.getD (m - 1) it0
     ·exact e
     ·exact absurd (.inr e) hk
    rw[zmW h0 h1,Nat.add_sub_cancel,h1];refine⟨i1,λx hx=>.inr ((i2 x hx).resolve_left (by omega))⟩
theorem zwF(l:List It):cuI (zk5 l) (zk5 l).length=zfB l :=
 zd4 (zuL (zvi l) (zsG _)).1 (zd5 l) (λx=>by
  rw[zlK (zsG _),zsN,mem_ordI]
  exact(zjH l).mem_iff)
theorem zpb(y x:It)(w:World):(binOp .neq 57 (.agg #[.int .i64 y.1,.int .i64 y.2.1,.int .i64 y.2.2]) (.agg #[.int .i64 x.1,.int .i64 x.2.1,.int .i64 x.2.2])).run Tryz.prog w=.ok (.bool (!decide (y=x))) w:=by
 rw[run_neq_struct,run_equalIn_agg w 9999 57 _ _ (by kernel_rfl) (by kernel_rfl)];unfold Program.fieldsOf;rw[Tryz.underlying57];simp[Op.eqFields,part,go_sem,Tryz.underlying3];obtain⟨y0,y1,y2⟩:=y;obtain⟨z0,z1,z2⟩:=x;simp only[Prod.mk.injEq];by_cases h0:y0=z0
 ·by_cases h1:y1=z1
  ·by_cases h2:y2=z2
   ·simp[h0,h1,h2]
   ·simp[h0,h1,h2]
  ·simp[h0,h1]
 ·simp[h0]
theorem zjj(h:zjw w g cap l){i:Nat}(hi:i<l.length)(x:It):zjw (((w.setCell ⟨g,i * 3,none⟩ (.int .i64 x.1)).setCell ⟨g,i * 3+1,none⟩ (.int .i64 x.2.1)).setCell ⟨g,i * 3+2,none⟩ (.int .i64 x.2.2)) g cap (l.set i x):=by
 obtain⟨cu,h1,h2,h3,h4,h5⟩:=h;have hn:(zaE l).length=l.length * 3:=zbU l;refine⟨Wk.over cu (i * 3) [.int .i64 x.1,.int .i64 x.2.1,.int .i64 x.2.2],?_,?_,by simpa using h3,h4,?_⟩
 ·rw[Wk.block_set (Wk.block_set (Wk.block_set h1 _) _) _,znF _ _ _ _ _ (by omega)]
 ·rw[Wk.over_length _ _ _ (by simp;omega),h2]
 ·have e:zaE (l.set i x)=(zaE l).take (i * 3) ++ ([.int .i64 x.1,.int .i64 x.2.1,.int .i64 x.2.2] ++ (zaE l).drop ((i+1) * 3)):=by
   rw[List.set_eq_take_append_cons_drop,if_pos hi,zcg,zcx,zia,zn5];rfl
  have hle:i * 3+3<=l.length * 3:=by omega
  rw[e,List.length_set,<- h5,List.take_take,Nat.min_eq_left (by omega),List.drop_take];unfold Wk.over;rw[List.take_append,List.take_append,List.take_of_length_le (l:=cu.take (i * 3)) (by simp;omega),zsV,Nat.min_eq_left (by omega),List.take_of_length_le (l:=[Value.int .i64 x.1,_,_]) (by simp;omega)];simp only[List.length_cons,List.length_nil];rw[show l.length * 3 - i * 3 - (0+1+1+1)=l.length * 3 - (i+1) * 3 by omega,show i * 3+(0+1+1+1)=(i+1) * 3 by omega]
theorem zqS(g cap:Nat)(l:List It)(w:World)(hb:zjw w g cap l)(hl:l.length<=5864062014805) :
 Calls Tryz.prog 73 #[.slice (some ⟨g,0,none⟩) l.length cap] w λe w'=>e=.returned (.slice (some ⟨g,0,none⟩) (cuI l l.length).length cap)/\zjw w' g cap (cuI l l.length)/\Fr (· = g) w w':=by
 have hlc:l.length<=cap:=by obtain⟨_,_,_,h,_⟩:=hb;exact h
 by_cases h2:l.length<2
 ·have e:cuI l l.length=l:=by
   rw[zjb (λj h0 h1=>by omega) (zsG _),zsN]
  rw[e];have h2':(l.length:Int)<2:=by omega
  have Hb:=zaa hb;clear hb e;go_enter Tryz.func73,Tryz.ntmps73;go_wp2;go_ret;exact⟨rfl,uh Hb,zax _ _⟩
 · have h2' : ¬ (l.length : Int) < 2 := by omega
   have Hb:=zaa hb;clear hb;go_enter Tryz.func73,Tryz.ntmps73;go_wp2
   go_loopw [3] (λu wr=>∃ k:Nat,u=.int .i64 k/\1<=k/\k<=l.length/\(∀ j,0<j->j<k->l.getD j it0≠l.getD (j - 1) it0)/\zjw wr g cap l/\Fr (· = g) w wr) (λu _=>l.length - (intOf u).toNat)
   case atStart=>exact⟨1,rfl,zsG _,by omega,λj h0 h1=>by omega,uh Hb,zax _ _⟩
   case round =>
     obtain⟨k,rfl,h1k,hkl,hne,hbk,hfr⟩:=hrel;have Hbk:=zaa hbk;have Hfr:=zaa hfr;have Hne:=zaa hne;clear hbk hfr hne Hb;by_cases hlt:k<l.length
     · have hlt':(k:Int)<(l.length:Int):=by omega
       obtain⟨p,rfl⟩:∃ p,k=p+1:=⟨k - 1,by omega⟩;have hw:IntKind.i64.wrap (((p+1:Nat):Int) - 1)=(p:Int):=by rw[IntKind.wrap_i64];omega
       have hpl:(p:Int)<(l.length:Int):=by omega
       obtain⟨x0,x1,x2⟩:=zbk (uh Hbk) hlt;obtain⟨y0,y1,y2⟩:=zbk (uh Hbk) (show p<l.length by omega);have heq:=zpc (l.getD (p+1) it0) (l.getD p it0);by_cases he:l.getD (p+1) it0=l.getD p it0
       · have hd:decide (l.getD (p+1) it0=l.getD p it0)=true:=decide_eq_true he;rw[hd] at heq;have Hst:=zaa (zlM (by omega) hlt (uh Hne) he);clear hd he Hne;generalize l.getD (p+1) it0=X at *;generalize l.getD p it0=Y at *;have hcap:((p+1:Nat):Int)<=(cap:Int):=by omega
         have hcap2:((p:Int)+1)<=(l.length:Int):=by omega
         go_wp2_with fail;go_quiet (fail);go_wp2_with fail;clear x0 x1 x2 y0 y1 y2 heq
         go_loopw [3,5] (λu v wr=>∃ (kk k2:Nat) (M:List It),u=.int .i64 kk/\v=.int .i64 k2/\1<=k2/\zou l M (p+1+k2) kk/\zjw wr g cap M/\Fr (· = g) w wr) (λ_ v _=>l.length - (intOf v).toNat)
         case atStart=>exact⟨p+1,1,l,by go_num,rfl,zsG _,uh Hst,uh Hbk,uh Hfr⟩
         case round =>
           obtain⟨kk,k2,M,rfl,rfl,h1k2,hca,hbk,hfr⟩:=hrel;have Hca:=zaa hca;have Hbk2:=zaa hbk;have Hfr2:=zaa hfr;have hkm:=hca.2.2.1;have hml:=hca.2.2.2.1;have hMl:=hca.1;clear hca hbk hfr Hst Hbk Hfr;by_cases hlt2:p+1+k2<l.length
           · obtain⟨q,rfl⟩:∃ q,k2=q+1:=⟨k2 - 1,by omega⟩;have hb1:((q+1:Nat):Int)<((l.length - (p+1):Nat):Int):=by omega
             have hb2:(q:Int)<((l.length - (p+1):Nat):Int):=by omega
             have hw2:IntKind.i64.wrap (((q+1:Nat):Int) - 1)=(q:Int):=by rw[IntKind.wrap_i64];omega
             obtain⟨x0,x1,x2⟩:=zbk (uh Hbk2) (j:=p+1+(q+1)) (by omega);obtain⟨y0,y1,y2⟩:=zbk (uh Hbk2) (j:=p+1+q) (by omega);rw[(uh Hca).2.2.2.2 _ (by omega) hlt2] at x0 x1 x2;rw[(uh Hca).2.2.2.2 _ (by omega) (by omega)] at y0 y1 y2;rw[show (p+1+(q+1)) * 3=(p+1) * 3+(q+1) * 3 by omega] at x0 x1 x2;rw[show (p+1+q) * 3=(p+1) * 3+q * 3 by omega] at y0 y1 y2;have heq:=zpb (l.getD (p+1+(q+1)) it0) (l.getD (p+1+q) it0);by_cases he:l.getD (p+1+(q+1)) it0=l.getD (p+1+q) it0
             · have hd:decide (l.getD (p+1+(q+1)) it0=l.getD (p+1+q) it0)=true:=decide_eq_true he;rw[hd] at heq;have Hn:=zaa (ztY (uh Hca) hlt2 he);clear hd he Hca;generalize l.getD (p+1+(q+1)) it0=X at *;generalize l.getD (p+1+q) it0=Y at *;go_wp2_with fail;go_quiet (fail);go_wp2;go_roundw
               case rel=>exact⟨kk,q+1+1,M,rfl,by go_num,by omega,uh Hn,uh Hbk2,uh Hfr2⟩
               case measure=>simp[intOf];omega
             · have hd:decide (l.getD (p+1+(q+1)) it0=l.getD (p+1+q) it0)=false:=decide_eq_false he;rw[hd] at heq;have Hn:=zaa (zqY (uh Hca) hlt2 he);have hkI:(kk:Int)<(l.length:Int):=by omega
               have hkw:IntKind.i64.wrap ((kk:Int)+1)=((kk+1:Nat):Int):=by rw[IntKind.wrap_i64];omega
               obtain⟨q0,q1,q2⟩:=zbk (uh Hbk2) (j:=kk) (by omega);obtain⟨z0,z1,z2⟩:wr.frozen? ⟨g,kk * 3,none⟩=false/\wr.frozen? ⟨g,kk * 3+1,none⟩=false/\wr.frozen? ⟨g,kk * 3+2,none⟩=false:=by
                 obtain⟨cu,hg4,_⟩:=uh Hbk2;exact⟨Wk.frozen_block hg4 _,Wk.frozen_block hg4 _,Wk.frozen_block hg4 _⟩
               have hkl2:kk<l.length:=by omega
               clear hd he Hca;generalize l.getD (p+1+(q+1)) it0=X at *;generalize l.getD (p+1+q) it0=Y at *;have Hb3:=zaa (zjj (uh Hbk2) (i:=kk) (by omega) X);have Hf3:=zaa (zaD (zaD (zaD (uh Hfr2) (p:=⟨g,kk * 3,none⟩) rfl (.int .i64 X.1)) (p:=⟨g,kk * 3+1,none⟩) rfl (.int .i64 X.2.1)) (p:=⟨g,kk * 3+2,none⟩) rfl (.int .i64 X.2.2));go_wp2_with fail;go_quiet (fail);go_wp2;go_roundw
               case rel=>exact⟨kk+1,q+1+1,M.set kk X,by go_num,by go_num,by omega,uh Hn,uh Hb3,uh Hf3⟩
               case measure=>simp[intOf];omega
           · obtain rfl:k2=l.length - (p+1):=by omega
             have hm:p+1+(l.length - (p+1))=l.length:=by omega
             rw[hm] at Hca hkm;have hkl2:(kk:Int)<=(l.length:Int):=by omega
             have hkl3:kk<=l.length:=by omega
             have hkc:(kk:Int)<=(cap:Int):=by omega
             have hkc3:kk<=cap:=by omega
             have hlen:(cuI l l.length).length=kk:=by rw[<- (uh Hca).2.1,zsV];omega
             obtain⟨cu,hg4,hcl,hMc,hmx,htk⟩:=uh Hbk2
             have hcle:∀ ty,(Builtin.clear_ #[27] ty #[.slice (some ⟨g,kk * 3,none⟩) (l.length - kk) (cap - kk)]).run Tryz.prog wr=.ok (.tuple #[]) (wr.setRow g (Wk.over cu (kk * 3) (Builtin.zeroCells (Value.agg #[.int .i64 0,.int .i64 0,.int .i64 0]).cells (l.length - kk)).toList).toArray):=λty =>
               Wk.run_clear_over wr 27 57 ty (.agg #[.int .i64 0,.int .i64 0,.int .i64 0]) Tryz.underlying27 (λw=>by kernel_rfl) g (kk * 3) (l.length - kk) (cap - kk) (by omega) cu 57 hg4 (by rw[Wk.zeros_length,hcl];simp[Value.cells];omega) (by
                 intro v hv;simp only[Builtin.zeroCells,Value.cells,Array.toList_map,List.mem_map] at hv;obtain⟨i,_,rfl⟩:=hv;have h3:i % 3=0\/i % 3=1\/i % 3=2:=by omega
                 rcases h3 with h3 | h3 | h3 <;> simp[h3,Value.oneCell'])
             have Hfin:Hid (∀ W,W=wr.setRow g (Wk.over cu (kk * 3) (Builtin.zeroCells (Value.agg #[.int .i64 0,.int .i64 0,.int .i64 0]).cells (l.length - kk)).toList).toArray->zjw W g cap (cuI l l.length)/\Fr (· = g) w W):=zaa (λW hW=>by
               have hfit:kk * 3+(Builtin.zeroCells (Value.agg #[.int .i64 0,.int .i64 0,.int .i64 0]).cells (l.length - kk)).toList.length<=cu.length:=by rw[Wk.zeros_length,hcl];simp[Value.cells];omega
               refine⟨⟨_,by rw[hW];exact setRow_heap wr g _ _ 57 _ hg4,by rw[Wk.over_length _ _ _ hfit,hcl],by omega,hmx,?_⟩,?_⟩
               · rw[hlen,<- (uh Hca).2.1,<- zia,<- htk,List.take_take,Nat.min_eq_left (by omega)];unfold Wk.over;rw[List.take_append_of_le_length (by simp;omega),List.take_take,Nat.min_self]
               · have hf:=uh Hfr2;rw[hW]
                 exact⟨zsy hf.1 (by simp[World.setRow]),λk hk ho=>(setRow_other _ g k _ ho).trans (hf.2.1 k hk ho),hf.2.2⟩)
             have Hlen:=zaa hlen;clear hg4 hcl hmx htk hlen Hca;generalize wr.setRow g (Wk.over cu (kk * 3) (Builtin.zeroCells (Value.agg #[.int .i64 0,.int .i64 0,.int .i64 0]).cells (l.length - kk)).toList).toArray=W4 at *;obtain⟨hb4,hf4⟩:=uh Hfin _ rfl;have Hb4:=zaa hb4;have Hf4:=zaa hf4;clear hb4 hf4 Hfin Hbk2 Hfr2;go_wp2_with (at_builtin;refine Wk.wpList_clear_known _ rfl _ 27 rfl _ rfl (hcle _) ?_);go_wp2;go_ret;exact⟨by rw[uh Hlen];rfl,uh Hb4,uh Hf4⟩
       · have hd:decide (l.getD (p+1) it0=l.getD p it0)=false:=decide_eq_false he;rw[hd] at heq;have Hn2:Hid (∀ j,0<j->j<p+1+1->l.getD j it0≠l.getD (j - 1) it0):=zaa λj h0 hj=>by
           by_cases e:j=p+1
           · rw[e];exact he
           · exact uh Hne j h0 (by omega)
         clear hd he Hne;generalize l.getD (p+1) it0=X at *;generalize l.getD p it0=Y at *;go_wp2_with fail;go_quiet (fail);go_wp2;go_roundw
         case rel=>exact⟨p+1+1,by go_num,by omega,by omega,uh Hn2,uh Hbk,uh Hfr⟩
         case measure=>simp[intOf];omega
     · have hlt':¬ (k:Int)<(l.length:Int):=by omega
       obtain rfl:k=l.length:=by omega
       have e:cuI l l.length=l:=by
         rw[zjb (uh Hne) (zsG _),zsN]
       have He:=zaa e;clear e;go_wp2;go_ret;exact⟨by rw[uh He];rfl,by rw[uh He];exact uh Hbk,uh Hfr⟩
theorem ziF(h:zjw w g cap l)(hg:B<=g):w.ownsRow B 57 3 (.slice (some ⟨g,0,none⟩) l.length cap) l.length (zaE l):=by
 obtain⟨cu,h1,h2,h3,h4,h5⟩:=h;exact⟨by rw[zbU],.inr ⟨g,cap,cu.toArray,rfl,hg,h1,h3,h4,by simpa using h2,by simpa using h5⟩⟩
theorem zmq:w.ownsRow B 57 3 (.slice none 0 0) ([]:List It).length (zaE []):=⟨rfl,.inl ⟨rfl,rfl⟩⟩
theorem zkq{w':World}(h:Fr (· = g) w w')(hg:B<=g)(hB:B<=w.heap.size):Below B w w':=zau h hB (λk hk=>by subst hk;exact hg)
theorem sort2I(B:Nat)(v:Value)(l:List It)(w:World)(h:w.ownsRow B 57 3 v l.length (zaE l))(hB:B<=w.heap.size)(hl:l.length<=5864062014805) :
 Calls Tryz.prog 71 #[v,.func (.func 72) #[] #[]] w λe w'=>e=.returned (.tuple #[])/\w'.ownsRow B 57 3 v (zk5 l).length (zaE (zk5 l))/\Below B w w':=by
 by_cases hn:l=[]
 ·subst hn;have hs0:zk5 []=[]:=List.length_eq_zero_iff.1 (zcN []);rw[hs0];rcases h.2 with ⟨rfl,h0⟩ | ⟨g,cap,cur,rfl,hg,rest⟩
  ·refine(AnyF.slices_SortFunc_none { Tryz.sortI with } none 0 (.func (.func 72) #[] #[]) w).mono ?_;rintro e w2 ⟨rfl,rfl⟩;exact⟨rfl,zmq,zsY _ _⟩
  ·refine(AnyF.slices_SortFunc_none { Tryz.sortI with } (some ⟨g,0,none⟩) cap (.func (.func 72) #[] #[]) w).mono ?_;rintro e w2 ⟨rfl,rfl⟩;exact⟨rfl,h,zsY _ _⟩
 ·obtain⟨g,cap,rfl,hg,hb⟩:=zjk h hn;refine(zo2 g cap l w hb hl).mono ?_;rintro e w2 ⟨rfl,hb2,hf⟩;refine⟨rfl,?_,zkq hf hg hB⟩;have:=ziF hb2 hg
  rwa [zcN] at this ⊢
theorem zqR(w:World):Calls Tryz.prog 73 #[.slice none 0 0] w λe w'=>e=.returned (.slice none 0 0)/\w=w':=by
 go_enter Tryz.func73,Tryz.ntmps73;go_wp2;go_ret;exact⟨rfl,rfl⟩
theorem comp2I(B:Nat)(v:Value)(l:List It)(w:World)(h:w.ownsRow B 57 3 v l.length (zaE l))(hB:B<=w.heap.size)(hl:l.length<=5864062014805) :
 Calls Tryz.prog 73 #[v] w λe w'=>∃ a c,e=.returned (.slice a (cuI l l.length).length c)/\w'.ownsRow B 57 3 (.slice a (cuI l l.length).length c) (cuI l l.length).length (zaE (cuI l l.length))/\Below B w w':=by
 rcases h.2 with ⟨rfl,h0⟩ | ⟨g,cap,cur,rfl,h2,h3,h4,h5,h6,h7⟩
 ·obtain rfl:l=[]:=List.length_eq_zero_iff.1 h0;refine(zqR w).mono ?_;rintro e w2 ⟨rfl,rfl⟩;exact⟨none,0,rfl,zmq,zsY _ _⟩
 ·refine(zqS g cap l w ⟨cur.toList,h3,by simpa using h6,h4,h5,h7⟩ hl).mono ?_;rintro e w2 ⟨rfl,hb,hf⟩;exact⟨some ⟨g,0,none⟩,cap,rfl,ziF hb h2,zkq hf h2 hB⟩
theorem zg8(B:Nat)(a:Option Addr)(c:Nat)(l:List It)(hl:l.length<=5864062014805)(w:World)(hB:B<=w.heap.size)(h:zcy B w a l) :
 Calls Tryz.prog 35 #[.slice a l.length c] w λe w'=>∃ a' c',e=.returned (.slice a' (zfB l).length c')/\w'.ownsRow w.heap.size 57 3 (.slice a' (zfB l).length c') (zfB l).length (zaE (zfB l))/\Below w.heap.size w w':=by
 have Hc:=zaa (zih B a c l hl w hB h);have eg:∀ args w,(callFunc 72 args).run Tryz.prog w=.ok (.enter 72 args) w:=enters_of Tryz.func72 (by kernel_rfl) rfl;go_enter Tryz.func35,Tryz.ntmps35;go_wp2_with fail;refine(uh Hc).mono ?_;rintro e w1 ⟨v,rfl,hown,hb1⟩;have Hs:=zaa (sort2I w.heap.size v l w1 hown hb1.size hl);have Hb1:=zaa hb1;clear hown hb1 Hc h;go_wp2_with fail;refine(uh Hs).mono ?_;rintro e w2 ⟨rfl,hown,hb2⟩;have Hb2:=zaa ((uh Hb1).trans hb2);have Hs:=zaa (comp2I w.heap.size v (zk5 l) w2 hown (uh Hb2).size (by rw[zcN];exact hl));rw[zwF] at Hs;clear hown hb2 Hb1;go_wp2_with fail;refine(uh Hs).mono ?_;rintro e w3 ⟨a',c',rfl,hown,hb3⟩;have Hb3:=zaa ((uh Hb2).trans hb3);have Ho:=zaa hown;clear hown hb3 Hb2;go_wp2_with fail;go_ret;exact⟨a',c',rfl,uh Ho,uh Hb3⟩
def zi2(G:Gm)(x:It):Bool:=decide (0<x.2.1) || decide (x.1=(G.prods.length:Int))
def zgr(G:Gm)(l:List It):List It:=l.filter (zi2 G)
theorem zqb(G:Gm)(l:List It)(k:Nat)(hk:k<l.length):zgr G (l.take (k+1))=zgr G (l.take k) ++ (if zi2 G (l.getD k it0) then[l.getD k it0] else[]):=by
 have e:l.take (k+1)=l.take k ++ [l.getD k it0]:=by
  rw[zsU,zsF hk];simp[List.getD_eq_getElem?_getD,List.getElem?_eq_getElem hk]
 unfold zgr;rw[e,List.filter_append]
 congr 1
 by_cases h:zi2 G (l.getD k it0)=true
 ·rw[if_pos h,List.filter_cons,if_pos h];rfl
 ·rw[if_neg h,List.filter_cons,if_neg h];rfl
theorem znV(B gb:Nat)(G:Gm)(hG:GOk G)(a:Option Addr)(c:Nat)(l:List It)(hl:l.length<=5864062014805)(w:World)(hB:B<=w.heap.size)(hg:GmB B w gb G)(h:zcy B w a l) :
 Calls Tryz.prog 43 #[.pointer (some ⟨gb,0,none⟩),.slice a l.length c] w λe w'=>∃ a' c',e=.returned (.slice a' (zgr G l).length c')/\w'.ownsRow w.heap.size 57 3 (.slice a' (zgr G l).length c') (zgr G l).length (zaE (zgr G l))/\Below w.heap.size w w':=by
 have hps:=hG.ps;obtain⟨ka,kc,pa,pc,ra,rc,qa,qc,wa,wc,hlt,hbox,-,-,-⟩:=id hg;have Hg:=zaa hg;have Hh:=zaa h;clear hg h;go_enter Tryz.func43,Tryz.ntmps43;obtain⟨i0,hi,hz0,hz1,hz2⟩:=zah zh6;have HO:=zaa (λ(W:World) (_:Below w.heap.size w W) (V:Value) (n:Nat) (L:List It) (h:W.ownsRow w.heap.size 57 3 V n (zaE L))=>h);go_wp2_with fail
 go_loopw [5,10] (λv x wr=>∃ k:Nat,x=.int .i64 k/\k<=l.length/\(∃ a' c',v=.slice a' (zgr G (l.take k)).length c'/\wr.ownsRow w.heap.size 57 3 (.slice a' (zgr G (l.take k)).length c') (zgr G (l.take k)).length (zaE (zgr G (l.take k))))/\Below w.heap.size w wr) (λ_ x _=>l.length - (intOf x).toNat)
 case atStart=>exact⟨0,rfl,zsK _,⟨none,0,rfl,rfl,.inl ⟨rfl,rfl⟩⟩,zsY _ _⟩
 case round =>
  obtain⟨k,rfl,hk,⟨a',c',rfl,hown⟩,hb⟩:=hrel;by_cases hkl:k<l.length
  ·have hkl':(k:Int)<(l.length:Int):=by omega
   have hn:(zgr G (l.take k)).length<=k:=by
    refine zsy (List.length_filter_le _ _) ?_;rw[zsV];omega
   have hsn:=zqb G l k hkl;obtain⟨b,off,rfl,hbB,x0,x1,x2⟩:=zby (zaw (zab hb hB) (uh Hh)) hkl;have cl:=zac ((hb.block gb (by omega)).trans hbox) 3 rfl;generalize l.getD k it0=X at *;have hkx:zi2 G X=(decide (0<X.2.1) || decide (X.1=(G.prods.length:Int))):=rfl;generalize zgr G (l.take k)=L at *;have hsz:=hb.size;have Hb:=zaa hb;have Hown:=zaa hown;by_cases h1:0<X.2.1
   ·have hd:decide (0<X.2.1)=true:=decide_eq_true h1;rw[hd,Bool.true_or] at hkx;rw[hkx,if_pos rfl] at hsn;have Hsn:=zaa hsn;clear hsn hkx hb hown;go_wp2_with fail;go_quiet (fail);rename_i nq;have Ho2:=zaa (show (((wr.alloc (.cells #[.int .i64 X.1,.int .i64 X.2.1,.int .i64 X.2.2] 57)).drewN nq).alloc (.cells #[.int .i64 X.1,.int .i64 X.2.1,.int .i64 X.2.2] 57)).ownsRow w.heap.size 57 3 (.slice a' L.length c') L.length (zaE L) from World.ownsRow.alloc (show ((wr.alloc (.cells #[.int .i64 X.1,.int .i64 X.2.1,.int .i64 X.2.2] 57)).drewN nq).ownsRow w.heap.size 57 3 (.slice a' L.length c') L.length (zaE L) from(uh Hown).alloc _) _);have Hb2:=zaa (((uh Hb).alloc hsz (.cells #[.int .i64 X.1,.int .i64 X.2.1,.int .i64 X.2.2] 57)).trans (show Below w.heap.size (wr.alloc (.cells #[.int .i64 X.1,.int .i64 X.2.1,.int .i64 X.2.2] 57)) (((wr.alloc (.cells #[.int .i64 X.1,.int .i64 X.2.1,.int .i64 X.2.2] 57)).drewN nq).alloc (.cells #[.int .i64 X.1,.int .i64 X.2.1,.int .i64 X.2.2] 57)) from(zap (zsY _ _) nq).alloc (by simp;omega) _));have Hc:=zaa (zsH ((wr.alloc (.cells #[.int .i64 X.1,.int .i64 X.2.1,.int .i64 X.2.2] 57)).drewN nq) (.cells #[.int .i64 X.1,.int .i64 X.2.1,.int .i64 X.2.2] 57));go_wp2_with (at_builtin;refine wpList_append_own _ rfl _ _ 27 rfl w.heap.size 57 i0 (.agg #[.int .i64 0,.int .i64 0,.int .i64 0]) 3 24 Tryz.underlying27 hi hz0 hz1 hz2 rfl (by decide) _ _ _ rfl (uh Ho2) ⟨wr.heap.size+1,0,none⟩ 1 1 (zaE [X]) rfl ?qc1 ?qc2 ?qc3 ?qc4 ?qc5 ?qc6 ?_)
    case qc1=>exact zbU [X]
    case qc2=>intro j u hj;exact World.news_of_block (by simpa using uh Hc) j u (by simpa [zaE] using hj)
    case qc3=>exact zfo [X]
    case qc4=>unfold maxLen;omega
    case qc5=>omega
    case qc6=>have:=(uh Hb2).size;simp at this ⊢;omega
    intro v' w1 hown hgrow hnil;have HL:(zaE L ++ zaE [X])=zaE (L ++ [X]):=(zcg L [X]).symm;rw[HL] at hown;obtain⟨a3,c3,hv3⟩:=zaf hown;subst hv3
    have Hb3:=zaa ((uh Hb2).grown hgrow (by have:=(uh Hb2).size;omega) (λj hj=>by
     rcases(uh Ho2).2 with ⟨h0,_⟩ | ⟨g0,c0,cur0,h0,hg0,_⟩
     ·simp only[Value.slice.injEq] at h0;obtain⟨rfl,-,-⟩:=h0;simp[Value.ownBlock] at hj
     ·simp only[Value.slice.injEq] at h0;obtain⟨rfl,-,-⟩:=h0;simp[Value.ownBlock] at hj
      omega))
    have Ho3:=zaa hown;clear hown hgrow hnil Ho2 Hb2 Hc HL;go_wp2_with fail;go_roundw
    case rel=>exact⟨k+1,by go_num,by omega,by
     rw[uh Hsn];have hh:=uh Ho3;have e9:(L ++ [X]).length=L.length+1:=by simp
     rw[e9]
     exact⟨a3,c3,rfl,hh⟩,uh Hb3⟩
    case measure=>simp[intOf];omega
   ·have cl2:=(World.cell?_alloc_lt wr (.cells #[.int .i64 X.1,.int .i64 X.2.1,.int .i64 X.2.2] 57) (a:=⟨gb,3,none⟩) (zsQ wr _ cl)).trans cl;have hd:decide (0<X.2.1)=false:=decide_eq_false h1;have h1':¬ X.2.1 > 0:=h1;rw[hd,Bool.false_or] at hkx;by_cases h2:X.1=(G.prods.length:Int)
    · rw [decide_eq_true h2] at hkx;rw[hkx,if_pos rfl] at hsn;have Hsn:=zaa hsn;have h2':(X.1 == (G.prods.length:Int))=true:=by rw[h2];exact beq_self_eq_true _
      clear hsn hkx hb hown;have H2:=zaa h2;clear h2;go_wp2_with fail;go_quiet (fail);rename_i nq;have Ho2:=zaa (show (((wr.alloc (.cells #[.int .i64 X.1,.int .i64 X.2.1,.int .i64 X.2.2] 57)).drewN nq).alloc (.cells #[.int .i64 X.1,.int .i64 X.2.1,.int .i64 X.2.2] 57)).ownsRow w.heap.size 57 3 (.slice a' L.length c') L.length (zaE L) from World.ownsRow.alloc (show ((wr.alloc (.cells #[.int .i64 X.1,.int .i64 X.2.1,.int .i64 X.2.2] 57)).drewN nq).ownsRow w.heap.size 57 3 (.slice a' L.length c') L.length (zaE L) from(uh Hown).alloc _) _);have Hb2:=zaa (((uh Hb).alloc hsz (.cells #[.int .i64 X.1,.int .i64 X.2.1,.int .i64 X.2.2] 57)).trans (show Below w.heap.size (wr.alloc (.cells #[.int .i64 X.1,.int .i64 X.2.1,.int .i64 X.2.2] 57)) (((wr.alloc (.cells #[.int .i64 X.1,.int .i64 X.2.1,.int .i64 X.2.2] 57)).drewN nq).alloc (.cells #[.int .i64 X.1,.int .i64 X.2.1,.int .i64 X.2.2] 57)) from(zap (zsY _ _) nq).alloc (by simp;omega) _));have Hc:=zaa (zsH ((wr.alloc (.cells #[.int .i64 X.1,.int .i64 X.2.1,.int .i64 X.2.2] 57)).drewN nq) (.cells #[.int .i64 X.1,.int .i64 X.2.1,.int .i64 X.2.2] 57));go_wp2_with (at_builtin;refine wpList_append_own _ rfl _ _ 27 rfl w.heap.size 57 i0 (.agg #[.int .i64 0,.int .i64 0,.int .i64 0]) 3 24 Tryz.underlying27 hi hz0 hz1 hz2 rfl (by decide) _ _ _ rfl (uh Ho2) ⟨wr.heap.size+1,0,none⟩ 1 1 (zaE [X]) rfl ?qc1 ?qc2 ?qc3 ?qc4 ?qc5 ?qc6 ?_)
      case qc1=>exact zbU [X]
      case qc2=>intro j u hj;exact World.news_of_block (by simpa using uh Hc) j u (by simpa [zaE] using hj)
      case qc3=>exact zfo [X]
      case qc4=>unfold maxLen;omega
      case qc5=>omega
      case qc6=>have:=(uh Hb2).size;simp at this ⊢;omega
      intro v' w1 hown hgrow hnil;have HL:(zaE L ++ zaE [X])=zaE (L ++ [X]):=(zcg L [X]).symm;rw[HL] at hown;obtain⟨a3,c3,hv3⟩:=zaf hown;subst hv3
      have Hb3:=zaa ((uh Hb2).grown hgrow (by have:=(uh Hb2).size;omega) (λj hj=>by
        rcases(uh Ho2).2 with ⟨h0,_⟩ | ⟨g0,c0,cur0,h0,hg0,_⟩
        · simp only[Value.slice.injEq] at h0;obtain⟨rfl,-,-⟩:=h0;simp[Value.ownBlock] at hj
        · simp only[Value.slice.injEq] at h0;obtain⟨rfl,-,-⟩:=h0;simp[Value.ownBlock] at hj
          omega))
      have Ho3:=zaa hown;clear hown hgrow hnil Ho2 Hb2 Hc HL;go_wp2_with fail;go_roundw
      case rel=>exact⟨k+1,by go_num,by omega,by
        rw[uh Hsn];have hh:=uh Ho3;have e9:(L ++ [X]).length=L.length+1:=by simp
        rw[e9]
        exact⟨a3,c3,rfl,hh⟩,uh Hb3⟩
      case measure=>simp[intOf];omega
    · have h2':decide (X.1=(G.prods.length:Int))=false:=decide_eq_false h2;rw[h2'] at hkx;rw[hkx,if_neg (by decide),List.append_nil] at hsn;have Hsn:=zaa hsn;have Hb2:=zaa ((uh Hb).alloc hsz (.cells #[.int .i64 X.1,.int .i64 X.2.1,.int .i64 X.2.2] 57));clear hsn hkx hb hown;go_wp2_with fail;go_quiet (fail);go_wp2_with fail;refine⟨⟨k+1,by go_num,by omega,?_,zap (uh Hb2) _⟩,by simp[intOf];omega⟩;rw[uh Hsn];exact⟨a',c',rfl,(uh Hown).alloc _⟩
  ·obtain rfl:k=l.length:=by omega
   have hkl':¬ (l.length:Int)<(l.length:Int):=by omega
   rw[zsN] at hown;have Hb:=zaa hb;have Hown:=zaa hown;rw[zsN];clear hb hown;go_wp2;go_ret;exact⟨a',c',rfl,uh Hown,uh Hb⟩
end Go.Proofs.YtieciibnajeibaaGreatDoor
namespace Go.Proofs.YtieciibnajeibaaGreatDoor
open Go.RowKit
def ztL(l m:List It)(k:Nat):Prop:=∀ j,j<k->l.getD j it0=m.getD j it0
theorem eq_ofI{l m:List It}(hl:l.length=m.length)(h:ztL l m l.length):l=m:=by
 apply List.ext_getElem hl;intro j h1 h2;have:=h j h1
 rwa [zsE,zsE,zsF h1,zsF h2] at this
theorem zjM(a b:Option Addr)(ca cb:Nat)(l m:List It)(hl:l.length<=281474976710656)(w:World)(h1:zcy w.heap.size w a l)(h2:zcy w.heap.size w b m) :
 Calls Tryz.prog 11 #[.slice a l.length ca,.slice b m.length cb] w λe w'=>e=.returned (.bool (decide (l=m)))/\∃ q,w'=w.drewN q:=by
 by_cases hlen:l.length=m.length
 ·have hlen':((l.length:Int) != m.length)=false:=by simp;omega
  have Hyes:=zaa (λ(h:ztL l m l.length)=>show decide (l=m)=true from decide_eq_true (eq_ofI hlen h));have Hno:=zaa (λ(j:Nat) (h:l.getD j it0≠m.getD j it0)=>show decide (l=m)=false from decide_eq_false (λe=>h (by rw[e])));have H1:=zaa h1;have H2:=zaa h2;clear h1 h2;generalize decide (l=m)=R at *;go_enter Tryz.func11,Tryz.ntmps11;go_wp2
  go_loopw [5] (λx wr=>∃ k:Nat,x=.int .i64 k/\k<=l.length/\ztL l m k/\∃ q,wr=w.drewN q) (λx _=>l.length - (intOf x).toNat)
  case atStart=>exact⟨0,rfl,zsK _,λj hj=>absurd hj (Nat.not_lt_zero _),0,rfl⟩
  case round =>
   obtain⟨k,rfl,hk,heq,q,rfl⟩:=hrel;have Heq:=zaa heq;clear heq;by_cases hlt:k<l.length
   ·have hlt':(k:Int)<l.length:=by omega
    have hlt2':(k:Int)<m.length:=by omega
    obtain⟨b1,o1,rfl,hb1,c0,c1,c2⟩:=zby (uh H1) hlt;obtain⟨b2,o2,rfl,hb2,e0,e1,e2⟩:=zby (uh H2) (k:=k) (by omega);have d0:(w.drewN q).cell? ⟨b1,o1+k * 3,none⟩=some (.int .i64 (l.getD k it0).1):=c0;have d1:(w.drewN q).cell? ⟨b1,o1+k * 3+1,none⟩=some (.int .i64 (l.getD k it0).2.1):=c1;have d2:(w.drewN q).cell? ⟨b1,o1+k * 3+2,none⟩=some (.int .i64 (l.getD k it0).2.2):=c2;have f0:(w.drewN q).cell? ⟨b2,o2+k * 3,none⟩=some (.int .i64 (m.getD k it0).1):=e0;have f1:(w.drewN q).cell? ⟨b2,o2+k * 3+1,none⟩=some (.int .i64 (m.getD k it0).2.1):=e1;have f2:(w.drewN q).cell? ⟨b2,o2+k * 3+2,none⟩=some (.int .i64 (m.getD k it0).2.2):=e2;clear c0 c1 c2 e0 e1 e2;have hne:=zpb (l.getD k it0) (m.getD k it0);by_cases he:l.getD k it0=m.getD k it0
    ·have Hs:Hid (ztL l m (k+1)):=zaa (λj hj=>by
      by_cases e:j=k
      ·subst e;exact he
      ·exact uh Heq j (by omega))
     rw[decide_eq_true he] at hne;clear he;generalize m.getD k it0=x at *;generalize l.getD k it0=y at *;generalize hW:w.drewN q=W at *;go_wp2;go_quiet (fail);go_wp2;go_roundw
     case rel=>exact⟨k+1,by go_num,by omega,uh Hs,q+nq,by rw[<- hW,World.drewN_drewN]⟩
     case measure=>simp[intOf];omega
    ·have Hr:=zaa (uh Hno k he);rw[decide_eq_false he] at hne;clear he;generalize m.getD k it0=x at *;generalize l.getD k it0=y at *;generalize hW:w.drewN q=W at *;go_wp2;go_quiet (fail);go_wp2;go_ret;rw[uh Hr];exact⟨rfl,q+nq,by rw[<- hW,World.drewN_drewN]⟩
   ·obtain rfl:k=l.length:=by omega
    have Hr:=zaa (uh Hyes (uh Heq));go_wp2;go_ret;rw[uh Hr];exact⟨rfl,q,rfl⟩
 ·have hlen':((l.length:Int) != m.length)=true:=by simp;omega
  have Hr:Hid (decide (l=m)=false):=zaa (decide_eq_false (λe=>hlen (by rw[e])));generalize decide (l=m)=R at *;go_enter Tryz.func11,Tryz.ntmps11;go_wp2;go_ret;rw[uh Hr];exact⟨rfl,0,rfl⟩
end Go.Proofs.YtieciibnajeibaaGreatDoor

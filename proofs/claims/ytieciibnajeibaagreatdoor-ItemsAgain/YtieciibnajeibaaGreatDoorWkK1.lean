import Derived.Test.YtieciibnajeibaaGreatDoorWkP0
set_option maxHeartbeats 8000000
set_option maxRecDepth 100000
namespace Go.Proofs.YtieciibnajeibaaGreatDoor.Wk
open Go.RowKit Go.Maps
theorem idle49(p q r:Addr)(w:World) :
 CallsD Tryz.prog 243 #[.pointer (some p),.pointer (some q),.pointer (some r)] .returning w λe u' w'=>e=.returned (.tuple #[])/\u'=.returning/\w'=w:=by
 refine callsD_of_wpS Tryz.func243 rfl λc₀ cs hu=>?_;apply wpS_seq;apply wpS_region;simp[wpOpsS,go_sem,recoverD,hu,Tryz.ntmps243,Exit.thenS];refine wpS_cond (t:=false) (by simp[Act.eval,Array.replicate]) ?_;simp only[Bool.false_eq_true,if_false];refine wpS_of_wp (wp_skip ?_)
 cases c₀
 simp_all [bodyPostS,results,Tryz.results243]
theorem zv3(B:Nat)(m:Option Nat)(s:ByteArray)(c:Int)(t:Bool)(w:World)(hB:w.cell? ⟨B,1,none⟩=some (.map m))
 (hq:∀ w',Below w.heap.size w w'->(Instr.lookup 89 (.map m) (.string s) true).run Tryz.prog w'=.ok (.tuple #[.int .i64 c,.bool t]) w') :
 Calls Tryz.prog 220 #[.pointer (some ⟨B,0,none⟩),.string s] w λe w'=>e=.returned (.tuple #[.int .i64 c,.bool t,.int .i64 0])/\Below w.heap.size w w':=by
 have hmf:∀ (fn:Fn) (first cap:Array Value) (w:World),(Instr.makeFunc fn first cap).run Tryz.prog w=.ok (.func fn first cap) w:=λ_ _ _ _=>rfl;have hlt:=World.block_lt_of_cell? w _ hB;have hbl:∀ o1 o2 o3,Below w.heap.size w (((w.alloc o1).alloc o2).alloc o3):=λo1 o2 o3=>(((Below.refl _ w).alloc (Nat.le_refl _) _).alloc (by simp) _).alloc (by simp;omega) _;have hc:∀ o1 o2 o3,(((w.alloc o1).alloc o2).alloc o3).cell? ⟨B,1,none⟩=some (.map m):=λo1 o2 o3=>((hbl o1 o2 o3).cell (p:=⟨B,1,none⟩) hlt).trans hB;have hr:∀ o1 o2 o3,(Instr.lookup 89 (.map m) (.string s) true).run Tryz.prog (((w.alloc o1).alloc o2).alloc o3)=.ok (.tuple #[.int .i64 c,.bool t]) (((w.alloc o1).alloc o2).alloc o3):=λo1 o2 o3=>hq _ (hbl o1 o2 o3);clear hq hbl
 go_enter_defers Tryz.func220,Tryz.ntmps220
 go_wp2
 go_region
 go_wp2;refine leaves_cons (f:=243) (args:=#[.pointer (some ⟨w.heap.size,0,none⟩),.pointer (some ⟨w.heap.size+1,0,none⟩),.pointer (some ⟨w.heap.size+1+1,0,none⟩)]) (by simp) (by simp[go_sem]) ?_;refine(idle49 _ _ _ _).mono ?_;rintro e u' w'' ⟨rfl,rfl,rfl⟩;simp[Leaves,settle,results,Tryz.results220,go_sem];exact((((Below.refl _ w).alloc (Nat.le_refl _) _).alloc (by simp) _).alloc (by simp;omega) _).drew
def bs(l:List UInt8):ByteArray:=⟨⟨l⟩⟩
def posB(ks:List (List UInt8))(s:List UInt8):Int:=if s ∈ ks then(ks.idxOf s:Int) else 0
theorem law9:Keyed Tryz.prog 9:=string_keyed Tryz.underlying9
theorem keyS(s:List UInt8)(hs:s.length<=maxLen):keyOf Tryz.prog 9 (.string (bs s))=some (.string s):=WideMaps.keyOf_string_mk Tryz.underlying9 (s:=bs s) hs
theorem zero3(w:World):(zeroValue 3).run Tryz.prog w=.ok (.int .i64 0) w:=by kernel_rfl
structure Idx (w:World) (B:Nat) (O:Nat->Prop) (ks:List (List UInt8)):Prop where
 own:O B
 lt:∀ k,O k->k<w.heap.size
 nodup:ks.Nodup
 fit:∀ s ∈ ks,s.length<=maxLen
 lies:∃ sv mo,w.heap[B]? = some (.cells #[sv,.map mo] 310 (0,0))/\w.ownsRow 0 9 1 sv ks.length (ks.map λs=>.string (bs s))/\(∀ k,sv.ownBlock=some k->O k) /\
  ((mo = none /\ ks = []) \/ ∃ mb D, mo = some mb /\ O mb /\ w.ownsMap (H := Unit) Tryz.prog 9 (plainElem Tryz.prog 3) mb ks.length D /\
    ∀ s,Maps.has D (.string s)=decide (s ∈ ks)/\D.atKey (.string s) (.lit (.int .i64 0))=.lit (.int .i64 (posB ks s)))
variable{B b base g i n size:Nat}{O O':Nat->Prop}{P:Program}{a:Option Addr}{cs:Array Value}{f:Nat × Nat}{ks:List (List UInt8)}{t:Int}{v:Value}{w w':World}{xs:List Value}
theorem cell_block{t:TypeId}(h:w.heap[B]? = some (.cells cs t (0,0)))(j:Nat)(v:Value)(hj:cs[j]? = some v):w.cell? ⟨B,j,none⟩=some v:=by
 have e:(⟨B,0,none⟩:Addr).add j=⟨B,j,none⟩:=by unfold Addr.add;split <;> simp_all
 rw[<- e];exact World.news_of_block h j v (by simpa using hj)
theorem frozen_block{t:TypeId}(h:w.heap[B]? = some (.cells cs t (0,0)))(j:Nat):w.frozen? ⟨B,j,none⟩=false:=by
 simp[World.frozen?,h]
theorem zwl(h:Idx w B O ks)(ho:Off O' w w')(hd:∀ k,O k->¬ O' k):Idx w' B O ks:=by
 obtain⟨h1,h2,h3,h4,sv,mo,hB,hr,hs,hm⟩:=h;refine⟨h1,λk hk=>Nat.lt_of_lt_of_le (h2 k hk) ho.size,h3,h4,sv,mo,(ho.block B (h2 B h1) (hd B h1)).trans hB,own_off hr ho (λk hk=>hd k (hs k hk)),hs,?_⟩;rcases hm with h0 | ⟨mb,D,rfl,hO,hmap,hD⟩
 ·exact .inl h0
 ·exact .inr ⟨mb,D,rfl,hO,ziV hmap ho (hd mb hO),hD⟩
theorem zkj(h:Idx w B O ks)(hb:Below w.heap.size w w'):Idx w' B O ks:=zwl (O':=λ_=>False) h (zbj hb) (λ_ _ h=>h)
theorem zmH(B:Nat)(O:Nat->Prop)(ks:List (List UInt8))(s:List UInt8)(hs:s.length<=maxLen)(w:World)(h:Idx w B O ks) :
 Calls Tryz.prog 220 #[.pointer (some ⟨B,0,none⟩),.string (bs s)] w λe w'=>e=.returned (.tuple #[.int .i64 (posB ks s),.bool (decide (s ∈ ks)),.int .i64 0])/\Below w.heap.size w w':=by
 obtain⟨h1,h2,h3,h4,sv,mo,hB,hr,hsv,hm⟩:=h;refine zv3 B mo (bs s) _ _ w (cell_block hB 1 _ rfl) λw' hb=>?_;rcases hm with ⟨rfl,rfl⟩ | ⟨mb,D,rfl,hO,hmap,hD⟩
 ·rw[look_nil (w:=w') true law9 Tryz.underlying89 (zero3 _) (keyS s hs)];simp[posB]
 ·have hmap':=ziV (O:=λ_=>False) hmap (zbj hb) (λh=>h);obtain⟨v,ps,hrun,hv⟩:=hmap'.look_ok law9 Tryz.underlying89 (zero3 _) (plainElem_int Tryz.underlying3 (by decide)) (keyS s hs);obtain⟨c,rfl,hc,hwc⟩:=plainElem_int_inv Tryz.underlying3 hv;rw[hrun];have:=(hD s).2;simp only[Prod.mk.injEq] at hc;rw[hc.1] at this;rw[(hD s).1];simp only[DataW.lit.injEq,Lit.int.injEq,true_and] at this;rw[this]
theorem zah{e:TypeId}{z:Option Value}(h:(P.info? e).map (λi=>(i.zero,i.size,i.bytes))=some (z,n,b)):∃ i,P.info? e=some i/\i.zero=z/\i.size=n/\i.bytes=b:=by
 rw[Option.map_eq_some_iff] at h;obtain⟨i,hi,h⟩:=h;simp only[Prod.mk.injEq] at h;exact⟨i,hi,h.1,h.2.1,h.2.2⟩
theorem hstr:(Tryz.prog.info? 9).map (λi=>(i.zero,i.size,i.bytes))=some (some (.string ⟨#[]⟩),1,16):=by kernel_rfl
theorem block_set{t:TypeId}{fr:Nat × Nat}(h:w.heap[g]? = some (.cells cs t fr))(v:Value):(w.setCell ⟨g,i,none⟩ v).heap[g]? = some (.cells (cs.setIfInBounds i v) t fr):=by
 rw[setCell_eq_setRow w g i cs t fr v h];exact setRow_heap w g _ _ t _ h
theorem zbd{t e:TypeId}(hB:w.heap[B]? = some (.cells cs t f))(hr:w.ownsRow base e size v n xs)(ht:e≠t):v.ownBlock≠some B:=λh=>by
 rcases hr.2 with ⟨rfl,_⟩ | ⟨g,cap,cur,rfl,_,hh,_⟩
 ·simp[Value.ownBlock] at h
 ·simp only[Value.ownBlock,Option.some.injEq] at h;subst h;rw[hB] at hh;simp only[Option.some.injEq,Obj.cells.injEq] at hh;exact ht hh.2.1.symm
theorem zb1{t:TypeId}{H:Type}{k:TypeId}{R:Value->Option (DataW H × List MemPlace)}{D:DataW H}(hB:w.heap[B]? = some (.cells cs t f))(hm:w.ownsMap P k R b n D):b≠B:=λh=>by
 obtain⟨es,c,hb,_⟩:=hm;rw[h,hB] at hb;simp at hb
theorem zgJ{m:Nat}{e:TypeId}{H:Type}{k:TypeId}{R:Value->Option (DataW H × List MemPlace)}{D:DataW H}(hr:w.ownsRow base e size v n xs)(hm:w.ownsMap P k R b m D):v.ownBlock≠some b:=λh=>by
 rcases hr.2 with ⟨rfl,_⟩ | ⟨g,cap,cur,rfl,_,hh,_⟩
 ·simp[Value.ownBlock] at h
 ·simp only[Value.ownBlock,Option.some.injEq] at h;exact zb1 hh hm h.symm
theorem zlv{row:Option Nat}(h:∀ k,row=some k->v.ownBlock≠some k):v.ownBlock=none\/v.ownBlock≠row:=by
 cases hv:v.ownBlock with
 | none=>exact .inl rfl
 | some g=>exact .inr (λe=>h g e.symm hv)
theorem zmM{W W1 W3:World}{cap mb:Nat}{s:List UInt8}{sv:Value}{D:DataW Unit}{o:Obj}
 (hI:O B/\(∀ k,O k->k<w.heap.size)/\ks.Nodup/\∀ s ∈ ks,s.length<=maxLen) (hs:s.length<=maxLen) (hnew:s ∉ ks)
 (hoW:Off O w W) (hB:W.heap[B]? = some (.cells #[sv,.map (some mb)] 310 (0,0))) (hr:W.ownsRow 0 9 1 sv ks.length (ks.map λs=>.string (bs s))) (hsv:∀ k,sv.ownBlock=some k->O k) (hmb:O mb\/w.heap.size<=mb)
 (hm:W.ownsMap (H:=Unit) Tryz.prog 9 (plainElem Tryz.prog 3) mb ks.length D)
 (hD:∀ s,Maps.has D (.string s)=decide (s ∈ ks)/\D.atKey (.string s) (.lit (.int .i64 0))=.lit (.int .i64 (posB ks s)))
 (hown:W1.ownsRow 0 9 1 (.slice (some ⟨g,0,none⟩) (ks.length+1) cap) (ks.length+1) ((ks.map λs=>.string (bs s)) ++ [.string (bs s)])) (hg:(W.alloc o).grownBy W1 sv.ownBlock) (hgv:sv.ownBlock=some g\/g=W.heap.size+1) :
 ((W1.cell? ⟨B, 0, none⟩ = some sv /\ W1.frozen? ⟨B, 0, none⟩ = false) /\ (W1.setCell ⟨B, 0, none⟩ (.slice (some ⟨g, 0, none⟩) (ks.length + 1) cap)).cell? ⟨B, 1, none⟩ = some (.map (some mb)) /\
   (W1.setCell ⟨B,0,none⟩ (.slice (some ⟨g,0,none⟩) (ks.length+1) cap)).ownsMap (H:=Unit) Tryz.prog 9 (plainElem Tryz.prog 3) mb ks.length D) /\
 (W3.ownsMap (H:=Unit) Tryz.prog 9 (plainElem Tryz.prog 3) mb (ks.length+1) (D.put (.string s) (.lit (.int .i64 ks.length)))->(W1.setCell ⟨B,0,none⟩ (.slice (some ⟨g,0,none⟩) (ks.length+1) cap)).grownBy W3 (some mb) ->
   Off O w W3/\Idx W3 B (λk=>O k\/w.heap.size<=k/\k<W3.heap.size) (ks ++ [s])):=by
 obtain⟨h1,h2,h3,h4⟩:=hI;have n1:=zbd hB hr (by decide);have n2:=zb1 hB hm;have n3:=zgJ hr hm;have hBl:=lt_of_some hB;have hml:=hm.lt;have hB1:W1.heap[B]? = some (.cells #[sv,.map (some mb)] 310 (0,0)):=(hg.block B (by simp;omega) (λe=>n1 e.symm)).trans ((Below.heap_alloc W o B hBl).trans hB);have hm1:W1.ownsMap (H:=Unit) Tryz.prog 9 (plainElem Tryz.prog 3) mb ks.length D:=(hm.alloc o).kept hg (λe=>n3 e.symm);have n4:=zbd hB1 hown (by decide);have hB2:=block_set (i:=0) hB1 (.slice (some ⟨g,0,none⟩) (ks.length+1) cap);have hm2:=hm1.setCell (a:=⟨B,0,none⟩) n2 (.slice (some ⟨g,0,none⟩) (ks.length+1) cap);have hoff1:Off O w W1:=zc9 (zdL hoW o) hg (λk hk=>.inl (hsv k hk));have hoff2:=zaL hoff1 (p:=⟨B,0,none⟩) (.inl h1) (.slice (some ⟨g,0,none⟩) (ks.length+1) cap);refine⟨⟨⟨cell_block hB1 0 _ rfl,frozen_block hB1 0⟩,cell_block hB2 1 _ rfl,hm2⟩,λhm3 hg3=>?_⟩;have hoff3:=zc9 hoff2 hg3 (λk hk=>by cases hk;exact hmb)
 have hown2:(W1.setCell ⟨B,0,none⟩ (.slice (some ⟨g,0,none⟩) (ks.length+1) cap)).ownsRow 0 9 1 (.slice (some ⟨g,0,none⟩) (ks.length+1) cap) (ks.length+1) ((ks.map λs=>.string (bs s)) ++ [.string (bs s)]) :=
  own_off (O:=λk=>k=B) hown (zaL (O:=λk=>k=B) (zaJ _ _) (p:=⟨B,0,none⟩) (.inl rfl) _) (λk hk e=>n4 (e▸hk))
 have n5:=zgJ hown2 hm2;have hown3:=hown2.kept hg3 (zlv (λk hk=>by cases hk;exact n5));have hgl:g<W3.heap.size:=(hown3.lt g rfl).2;refine⟨hoff3,.inl h1,?_,?_,?_,.slice (some ⟨g,0,none⟩) (ks.length+1) cap,some mb,?_,?_,?_,.inr ⟨mb,D.put (.string s) (.lit (.int .i64 ks.length)),rfl,?_,?_,?_⟩⟩
 ·rintro k (hk | hk)
  ·have:=h2 k hk;have:=hoff3.size;omega
  ·exact hk.2
 ·rw[List.nodup_append];exact⟨h3,by simp,λa ha b hb e=>hnew (by simp at hb;rw[<- hb,<- e];exact ha)⟩
 ·intro x hx;rcases List.mem_append.1 hx with hx | hx
  ·exact h4 x hx
  ·simp at hx;rw[hx];exact hs
 ·exact(hg3.block B (by have:=lt_of_some hB2;exact this) (λe=>by cases e;exact n2 rfl)).trans hB2
 ·simpa using hown3
 ·intro k hk;simp only[Value.ownBlock,Option.some.injEq] at hk;subst hk;rcases hgv with h | h
  ·exact .inl (hsv _ h)
  ·exact .inr ⟨by have:=hoW.size;omega,hgl⟩
 ·rcases hmb with h | h
  ·exact .inl h
  ·exact .inr ⟨h,hm3.lt⟩
 ·simpa using hm3
 ·intro x;by_cases hx:x=s
  ·subst hx;have hkl:WideAt.IsKeyLit (.string x):=trivial;rw[has_put_same hm.isMap hkl,atKey_put_same hm.isMap hkl];simp[posB,List.idxOf_append,hnew]
  ·have hne:(Lit.string x)≠.string s:=by simpa using hx
   rw[has_put_other hne,atKey_put_other hne,(hD x).1,(hD x).2];refine⟨by simp[hx],?_⟩;unfold posB;by_cases hk:x ∈ ks
   ·simp[hk,List.idxOf_append]
   ·simp[hk,hx]
theorem zob(B:Nat)(O:Nat->Prop)(ks:List (List UInt8))(s:List UInt8)(hs:s.length<=maxLen)(hnew:s ∉ ks)(hn:ks.length<1048576)(w:World)
 (hI:O B/\(∀ k,O k->k<w.heap.size)/\ks.Nodup/\∀ s ∈ ks,s.length<=maxLen) (sv:Value) (mb:Nat) (D:DataW Unit)
 (hB:w.heap[B]? = some (.cells #[sv,.map (some mb)] 310 (0,0))) (hr:w.ownsRow 0 9 1 sv ks.length (ks.map λs=>.string (bs s))) (hsv:∀ k,sv.ownBlock=some k->O k)
 (hmb:O mb) (hm:w.ownsMap (H:=Unit) Tryz.prog 9 (plainElem Tryz.prog 3) mb ks.length D)
 (hD:∀ s,Maps.has D (.string s)=decide (s ∈ ks)/\D.atKey (.string s) (.lit (.int .i64 0))=.lit (.int .i64 (posB ks s))) :
 Calls Tryz.prog 221 #[.pointer (some ⟨B,0,none⟩),.string (bs s)] w λe w'=>e=.returned (.int .i64 ks.length)/\Off O w w'/\Idx w' B (λk=>O k\/w.heap.size<=k/\k<w'.heap.size) (ks ++ [s]):=by
 obtain⟨i0,hi,hz0,hz1,hz2⟩:=zah hstr;have hlt:=lt_of_some hB;have c0:=cell_block hB 0 _ rfl;have c1:=cell_block hB 1 _ rfl;have f0:=frozen_block hB 0;have f1:=frozen_block hB 1;have qm:∀ (w:World) (r:Option Nat),(binOp .eql 89 (.map r) (.map none)).run Tryz.prog w=.ok (.bool r.isNone) w:=λw r=>run_eql_map_nil w _ _ _ r Tryz.underlying89;have qk:=λw:World=>run_makeMap (P:=Tryz.prog) 89 w;have Hg:=zaa (λW1 W3 g cap=>zmM (w:=w) (W:=w) (W1:=W1) (W3:=W3) (g:=g) (cap:=cap) (mb:=mb) (sv:=sv) (o:=.cells #[.string (bs s)] 9) hI hs hnew (zaJ _ _) hB hr hsv (.inl hmb) hm hD);have Ho:=zaa (hr:World.ownsRow (w) 0 9 1 sv ks.length (ks.map λs=>.string (bs s)));obtain⟨va,vc,rfl⟩:=zaf hr;have Hk:=zaa (keyS s hs);clear hB hr hsv hI hm hD hmb;have hn':(ks.length:Int)<1048576:=by omega
 go_enter Tryz.func221,Tryz.ntmps221;go_wp2_with (at_builtin;refine wpList_append_lies _ rfl _ _ 22 rfl 0 9 i0 (.string ⟨#[]⟩) 1 16 Tryz.underlying22 hi hz0 hz1 hz2 rfl (by decide) _ ks.length (ks.map λs=>.string (bs s)) rfl ((uh Ho).alloc _) ⟨w.heap.size,0,none⟩ 1 1 [.string (bs s)] rfl rfl ?c1 ?c2 (by decide) ?c3 ?c4 (Nat.zero_le _) (w.heap.size+1) ?c5 ?_)
 case c1 =>
  have h:=World.news_of_block (MapKept.heap_alloc (w) (.cells #[.string (bs s)] 9)).1;simpa using h
 case c2=>simp[Value.oneCell']
 case c3=>unfold maxLen;omega
 case c4=>omega
 case c5=>simp
 intro g cap W1 hown hgr hgv hgl;obtain⟨⟨⟨d0,e0⟩,d1,hm2⟩,-⟩:=uh Hg W1 W1 g cap hown hgr (by simpa using hgv);have Hm2:=zaa hm2;have Hown:=zaa hown;have Hgr:=zaa hgr;clear hown hgr hm2 c0 c1 f0 f1;go_wp2_with (at_mapUpdate;refine wpList_mapUpdate_own _ rfl _ _ _ 89 rfl 9 3 law9 Tryz.underlying89 _ _ ks.length _ rfl (uh Hm2) ?d1 _ _ (.string s) rfl rfl (uh Hk) (.lit (.int .i64 ks.length)) [] ?d2 ?_)
 case d1=>unfold maxLen;omega
 case d2=>exact plainElem_int Tryz.underlying3 (WalkArith.wf_i64 (by omega))
 intro W3 hm3 hg3;have h:=(uh Hg W1 W3 g cap (uh Hown) (uh Hgr) (by simpa using hgv)).2 hm3 hg3;have Hh:=zaa h;clear h hm3 hg3;go_wp2;go_ret;exact⟨rfl,uh Hh⟩
theorem zqF(B:Nat)(O:Nat->Prop)(ks:List (List UInt8))(s:List UInt8)(hs:s.length<=maxLen)(hnew:s ∉ ks)(hn:ks.length<1048576)(w:World)
 (hI:O B/\(∀ k,O k->k<w.heap.size)/\ks.Nodup/\∀ s ∈ ks,s.length<=maxLen) (sv:Value) (hks:ks=[])
 (hB:w.heap[B]? = some (.cells #[sv,.map none] 310 (0,0))) (hr:w.ownsRow 0 9 1 sv ks.length (ks.map λs=>.string (bs s))) (hsv:∀ k,sv.ownBlock=some k->O k) :
 Calls Tryz.prog 221 #[.pointer (some ⟨B,0,none⟩),.string (bs s)] w λe w'=>e=.returned (.int .i64 ks.length)/\Off O w w'/\Idx w' B (λk=>O k\/w.heap.size<=k/\k<w'.heap.size) (ks ++ [s]):=by
 obtain⟨i0,hi,hz0,hz1,hz2⟩:=zah hstr;have hlt:=lt_of_some hB;have c0:=cell_block hB 0 _ rfl;have c1:=cell_block hB 1 _ rfl;have f0:=frozen_block hB 0;have f1:=frozen_block hB 1;have qm:∀ (w:World) (r:Option Nat),(binOp .eql 89 (.map r) (.map none)).run Tryz.prog w=.ok (.bool r.isNone) w:=λw r=>run_eql_map_nil w _ _ _ r Tryz.underlying89;have qk:=λw:World=>run_makeMap (P:=Tryz.prog) 89 w;have hB':((w.setCell ⟨B,1,none⟩ (.map (some w.heap.size))).alloc (.map #[] 0)).heap[B]? = some (.cells #[sv,.map (some w.heap.size)] 310 (0,0)):=by
  have hs1:(w.setCell ⟨B,1,none⟩ (.map (some w.heap.size))).heap.size=w.heap.size:=by simp
  exact(Below.heap_alloc _ _ B (by omega)).trans (block_set (i:=1) hB (.map (some w.heap.size)))
 have hr':World.ownsRow ((w.setCell ⟨B,1,none⟩ (.map (some w.heap.size))).alloc (.map #[] 0)) 0 9 1 sv ks.length (ks.map λs=>.string (bs s)):=by
  have n1:=zbd hB hr (by decide);exact(own_off (O:=λk=>k=B) hr (zaL (O:=λk=>k=B) (zaJ _ _) (p:=⟨B,1,none⟩) (.inl rfl) _) (λk hk e=>n1 (e▸hk))).alloc _
 have hm':World.ownsMap (H:=Unit) ((w.setCell ⟨B,1,none⟩ (.map (some w.heap.size))).alloc (.map #[] 0)) Tryz.prog 9 (plainElem Tryz.prog 3) w.heap.size ks.length (.map []):=by
  have h:=World.ownsMap_made (H:=Unit) (w.setCell ⟨B,1,none⟩ (.map (some w.heap.size))) Tryz.prog 9 (plainElem Tryz.prog 3);have hs1:(w.setCell ⟨B,1,none⟩ (.map (some w.heap.size))).heap.size=w.heap.size:=by simp
  rw[hs1] at h;exact h.mono (Nat.zero_le _)
 have hD':∀ s,Maps.has (.map []:DataW Unit) (.string s)=decide (s ∈ ks)/\(DataW.map []:DataW Unit).atKey (.string s) (.lit (.int .i64 0))=.lit (.int .i64 (posB ks s)):=λx=>by
  subst hks;exact⟨rfl,rfl⟩
 have Hg:=zaa (λW1 W3 g cap=>zmM (w:=w) (W:=(w.setCell ⟨B,1,none⟩ (.map (some w.heap.size))).alloc (.map #[] 0)) (W1:=W1) (W3:=W3) (g:=g) (cap:=cap) (mb:=w.heap.size) (sv:=sv) (o:=.cells #[.string (bs s)] 9) hI hs hnew (zdL (zaL (zaJ _ _) (p:=⟨B,1,none⟩) (.inl hI.1) _) _) hB' hr' hsv (.inr (Nat.le_refl _)) hm' hD' );have Ho:=zaa (hr':World.ownsRow ((w.setCell ⟨B,1,none⟩ (.map (some w.heap.size))).alloc (.map #[] 0)) 0 9 1 sv ks.length (ks.map λs=>.string (bs s)));obtain⟨va,vc,rfl⟩:=zaf hr;have Hk:=zaa (keyS s hs);clear hB hr hsv hI hB' hr' hm' hD' hks;have hn':(ks.length:Int)<1048576:=by omega
 go_enter Tryz.func221,Tryz.ntmps221;go_wp2_with (at_builtin;refine wpList_append_lies _ rfl _ _ 22 rfl 0 9 i0 (.string ⟨#[]⟩) 1 16 Tryz.underlying22 hi hz0 hz1 hz2 rfl (by decide) _ ks.length (ks.map λs=>.string (bs s)) rfl ((uh Ho).alloc _) ⟨w.heap.size+1,0,none⟩ 1 1 [.string (bs s)] rfl rfl ?c1 ?c2 (by decide) ?c3 ?c4 (Nat.zero_le _) (w.heap.size+1+1) ?c5 ?_)
 case c1 =>
  have h:=World.news_of_block (MapKept.heap_alloc ((w.setCell ⟨B,1,none⟩ (.map (some w.heap.size))).alloc (.map #[] 0)) (.cells #[.string (bs s)] 9)).1;simpa using h
 case c2=>simp[Value.oneCell']
 case c3=>unfold maxLen;omega
 case c4=>omega
 case c5=>simp
 intro g cap W1 hown hgr hgv hgl;obtain⟨⟨⟨d0,e0⟩,d1,hm2⟩,-⟩:=uh Hg W1 W1 g cap hown hgr (by simpa using hgv);have Hm2:=zaa hm2;have Hown:=zaa hown;have Hgr:=zaa hgr;clear hown hgr hm2 c0 c1 f0 f1;go_wp2_with (at_mapUpdate;refine wpList_mapUpdate_own _ rfl _ _ _ 89 rfl 9 3 law9 Tryz.underlying89 _ _ ks.length _ rfl (uh Hm2) ?d1 _ _ (.string s) rfl rfl (uh Hk) (.lit (.int .i64 ks.length)) [] ?d2 ?_)
 case d1=>unfold maxLen;omega
 case d2=>exact plainElem_int Tryz.underlying3 (WalkArith.wf_i64 (by omega))
 intro W3 hm3 hg3;have h:=(uh Hg W1 W3 g cap (uh Hown) (uh Hgr) (by simpa using hgv)).2 hm3 hg3;have Hh:=zaa h;clear h hm3 hg3;go_wp2;go_ret;exact⟨rfl,uh Hh⟩
theorem zhg(B:Nat)(O:Nat->Prop)(ks:List (List UInt8))(s:List UInt8)(hs:s.length<=maxLen)(hnew:s ∉ ks)(hn:ks.length<1048576)(w:World)(h:Idx w B O ks) :
 Calls Tryz.prog 221 #[.pointer (some ⟨B,0,none⟩),.string (bs s)] w λe w'=>e=.returned (.int .i64 ks.length)/\Off O w w'/\Idx w' B (λk=>O k\/w.heap.size<=k/\k<w'.heap.size) (ks ++ [s]):=by
 obtain⟨h1,h2,h3,h4,sv,mo,hB,hr,hsv,hm⟩:=h;rcases hm with ⟨rfl,hk⟩ | ⟨mb,D,rfl,hO,hmap,hD⟩
 ·exact zqF B O ks s hs hnew hn w ⟨h1,h2,h3,h4⟩ sv hk hB hr hsv
 ·exact zob B O ks s hs hnew hn w ⟨h1,h2,h3,h4⟩ sv mb D hB hr hsv hO hmap hD
theorem ztv(h:Idx w B O ks)(hO:∀ k,O k->O' k)(hl:∀ k,O' k->k<w.heap.size):Idx w B O' ks:=by
 obtain⟨h1,h2,h3,h4,sv,mo,hB,hr,hs,hm⟩:=h;refine⟨hO _ h1,hl,h3,h4,sv,mo,hB,hr,λk hk=>hO k (hs k hk),?_⟩;rcases hm with h0 | ⟨mb,D,rfl,ho,r⟩
 ·exact .inl h0
 ·exact .inr ⟨mb,D,rfl,hO _ ho,r⟩
theorem at_old(B:Nat)(O:Nat->Prop)(ks:List (List UInt8))(s:List UInt8)(hs:s.length<=maxLen)(hold:s ∈ ks)(w:World)(h:Idx w B O ks) :
 Calls Tryz.prog 190 #[.pointer (some ⟨B,0,none⟩),.string (bs s)] w λe w'=>e=.returned (.tuple #[.int .i64 (posB ks s),.bool false,.int .i64 0])/\Below w.heap.size w w':=by
 have HL:=zaa (zmH B O ks s hs w h);rw[show decide (s ∈ ks)=true by simpa using hold] at HL;clear h hold;generalize posB ks s=x at *;go_enter Tryz.func190,Tryz.ntmps190;go_wp2_with (go_at_call 220;refine(uh HL).mono ?_;rintro e w' ⟨rfl,hb⟩)
 go_ret3
 exact⟨rfl,hb⟩
theorem at_new(B:Nat)(O:Nat->Prop)(ks:List (List UInt8))(s:List UInt8)(hs:s.length<=maxLen)(hnew:s ∉ ks)(hn:ks.length<1048576)(w:World)(h:Idx w B O ks) :
 Calls Tryz.prog 190 #[.pointer (some ⟨B,0,none⟩),.string (bs s)] w λe w'=>e=.returned (.tuple #[.int .i64 ks.length,.bool true,.int .i64 0])/\Off O w w'/\Idx w' B (λk=>O k\/w.heap.size<=k/\k<w'.heap.size) (ks ++ [s]):=by
 have HL:=zaa (zmH B O ks s hs w h);rw[show decide (s ∈ ks)=false by simpa using hnew,show posB ks s=0 by simp[posB,hnew]] at HL;have HE:=zaa (λw' hb=>zhg B O ks s hs hnew hn w' (zkj h hb))
 have HC:Hid (∀ w',Below w.heap.size w w'->∃ a c,w'.cell? ⟨B,0,none⟩=some (.slice a ks.length c)):=zaa (λw' hb=>by
  obtain⟨sv,mo,hB,hr,-⟩:=(zkj h hb).lies;obtain⟨a,c,rfl⟩:=zaf hr
  exact⟨a,c,cell_block hB 0 _ rfl⟩)
 have HO:=zaa h.lt;have hq:((ks.length:Int) == 1048576)=false:=by simp;omega
 clear h hnew;go_enter Tryz.func190,Tryz.ntmps190;go_wp2_with (go_at_call 220;refine(uh HL).mono ?_;rintro e w' ⟨rfl,hb⟩;obtain⟨a,c,hc0⟩:=uh HC w' hb);refine(uh HE w' hb).mono ?_;rintro e w'' ⟨rfl,ho,hx⟩;have Hb:=zaa hb;have Ho:=zaa ho;have Hx:=zaa hx;clear hb ho hx hc0;go_wp2
 go_ret3
 have hs1:=(uh Hb).size;have hs2:=(uh Ho).size;refine⟨rfl,zgR (zbj (uh Hb)) (uh Ho),ztv (uh Hx) ?_ ?_⟩
 ·rintro k (h | h)
  ·exact .inl h
  ·exact .inr ⟨by omega,h.2⟩
 ·rintro k (h | h)
  ·have:=uh HO k h;omega
  ·exact h.2
abbrev Blk:=Int × Int
def zdD(x y:Int):Int:=if x<y then -1 else if y<x then 1 else 0
theorem zlL(x y:Int)(w:World):Calls Tryz.prog 125 #[.int .i64 x,.int .i64 y] w λe w'=>e=.returned (.int .i64 (zdD x y))/\w'=w:=by
 by_cases h1:x<y
 ·rw[show zdD x y = -1 by simp[zdD,h1]];go_enter Tryz.func125,Tryz.ntmps125;go_wp2;go_ret;exact⟨rfl,rfl⟩
 ·by_cases h2:y<x
  ·rw[show zdD x y=1 by simp[zdD,h1,h2]];go_enter Tryz.func125,Tryz.ntmps125;go_wp2;go_ret;exact⟨rfl,rfl⟩
  ·rw[show zdD x y=0 by simp[zdD,h1,h2]];go_enter Tryz.func125,Tryz.ntmps125;go_wp2;go_ret;exact⟨rfl,rfl⟩
theorem zqD(x y t:Int)(w:World):Calls Tryz.prog 229 #[.agg #[.int .i64 x,.int .u64 y],.int .i64 t] w λe w'=>e=.returned (.int .i64 (zdD x t))/\w'=w.alloc (.cells #[.int .i64 x,.int .u64 y] 244):=by
 have HC:=zaa (λw'=>zlL x t w');go_enter Tryz.func229,Tryz.ntmps229;go_wp2_with (go_at_call 125;refine(uh HC _).mono ?_;rintro e w' ⟨rfl,rfl⟩);go_ret;exact⟨rfl,rfl⟩
def zaF(bl:List Blk):List Value:=bl.flatMap λb=>[.int .i64 b.1,.int .u64 b.2]
theorem zbJ(b:Blk)(bl:List Blk):zaF (b::bl)=.int .i64 b.1::.int .u64 b.2::zaF bl:=rfl
theorem zf5(a b:List Blk):zaF (a ++ b)=zaF a ++ zaF b:=List.flatMap_append
theorem zaN(bl:List Blk):(zaF bl).length=bl.length * 2:=by
 induction bl with
 | nil=>rfl
 | cons b bl ih=>rw[zbJ,List.length_cons,List.length_cons,ih,List.length_cons];omega
theorem zmT(bl:List Blk)(j:Nat)(hj:j<bl.length):(zaF bl)[j * 2]? = some (.int .i64 (bl.getD j (0,0)).1)/\(zaF bl)[j * 2+1]? = some (.int .u64 (bl.getD j (0,0)).2):=by
 induction bl generalizing j with
 | nil=>simp at hj
 | cons b bl ih =>
   cases j with
   | zero=>exact⟨rfl,rfl⟩
   | succ j =>
     have h:=ih j (by simpa using hj);rw[zbJ];rw[show (j+1) * 2=j * 2+1+1 by omega];simpa using h
theorem zhc(bl:List Blk):∀ u ∈ zaF bl,u.oneCell'=true:=by
 intro u hu;simp only[zaF,List.mem_flatMap] at hu;obtain⟨b,-,hb⟩:=hu;simp at hb;rcases hb with rfl | rfl <;> rfl
def BRow(w:World)(a:Option Addr)(bl:List Blk):Prop :=
 bl=[]\/∃ g,a=some ⟨g,0,none⟩/\g<w.heap.size/\∀ j,j<bl.length->w.cell? ⟨g,j * 2,none⟩=some (.int .i64 (bl.getD j (0,0)).1)/\w.cell? ⟨g,j * 2+1,none⟩=some (.int .u64 (bl.getD j (0,0)).2)
theorem zol{bl:List Blk}(h:BRow w a bl)(hb:Below w.heap.size w w'):BRow w' a bl:=by
 rcases h with rfl | ⟨g,rfl,hlt,hc⟩
 ·exact .inl rfl
 ·refine .inr ⟨g,rfl,Nat.lt_of_lt_of_le hlt hb.size,λj hj=>?_⟩;rw[hb.cell (by exact hlt),hb.cell (by exact hlt)];exact hc j hj
theorem zeq{c:Nat}{bl:List Blk}(h:w.ownsRow B 244 2 (.slice a bl.length c) bl.length (zaF bl)):BRow w a bl:=by
 by_cases h0:bl=[]
 ·exact .inl h0
 ·obtain⟨g,c',hv,-,hg,-⟩:=own_pos h (List.length_pos_iff.2 h0);simp only[Value.slice.injEq] at hv;obtain⟨rfl,-,rfl⟩:=hv;refine .inr ⟨g,rfl,hg,λj hj=>?_⟩;have hf:=zmT bl j hj;have hl:=zaN bl;have e:=λk (hk:k<(zaF bl).length)=>own_cell h rfl k hk;refine⟨(e _ (by omega)).trans ?_,(e _ (by omega)).trans ?_⟩
  ·rw[List.getD_eq_getElem?_getD,hf.1];rfl
  ·rw[List.getD_eq_getElem?_getD,hf.2];rfl
def zcl(bl:List Blk):Prop:=bl.Pairwise λx y=>x.1<y.1
theorem ziA{bl:List Blk}(h:zcl bl){j:Nat}(hij:i<j)(hj:j<bl.length):(bl.getD i (0,0)).1<(bl.getD j (0,0)).1:=by
 rw[List.getD_eq_getElem?_getD,List.getD_eq_getElem?_getD,List.getElem?_eq_getElem hj,List.getElem?_eq_getElem (by omega)];exact(List.pairwise_iff_getElem.1 h) i j (by omega) hj hij
def loc(bl:List Blk)(t:Int):Nat:=(bl.filter λb=>decide (b.1<t)).length
def zg7(bl:List Blk)(t:Int):Bool:=bl.any λb=>b.1 == t
theorem za8(bl:List Blk)(k:Nat)(h:k<bl.length):bl.getD k (0,0)=bl[k]:=by rw[List.getD_eq_getElem?_getD,List.getElem?_eq_getElem h];rfl
theorem loc_of{bl:List Blk}(hi:i<=bl.length)(h1:∀ k,k<i->(bl.getD k (0,0)).1<t)(h2:∀ k,i<=k->k<bl.length->t<=(bl.getD k (0,0)).1):loc bl t=i:=by
 unfold loc
 conv=>lhs;rw[<- List.take_append_drop i bl]
 rw[List.filter_append,List.filter_eq_self.2,List.filter_eq_nil_iff.2]
 ·simp;omega
 ·intro b hb;obtain⟨k,hk,rfl⟩:=List.mem_iff_getElem.1 hb;simp only[List.length_drop] at hk;have:=h2 (i+k) (by omega) (by omega);rw[za8 _ _ (by omega)] at this;simp only[List.getElem_drop,decide_eq_true_eq];omega
 ·intro b hb;obtain⟨k,hk,rfl⟩:=List.mem_iff_getElem.1 hb;simp only[List.length_take] at hk;have:=h1 k (by omega);rw[za8 _ _ (by omega)] at this;simpa using this
theorem zqh{bl:List Blk}(hup:zcl bl)(h1:∀ k,k<i->(bl.getD k (0,0)).1<t)(h2:∀ k,i<=k->k<bl.length->t<=(bl.getD k (0,0)).1):zg7 bl t=decide (i<bl.length/\(bl.getD i (0,0)).1=t):=by
 rw[Bool.eq_iff_iff];simp only[zg7,List.any_eq_true,beq_iff_eq,decide_eq_true_eq];constructor
 ·rintro⟨b,hb,rfl⟩;obtain⟨k,hk,rfl⟩:=List.mem_iff_getElem.1 hb;rw[<- za8 _ _ hk] at *;rcases Nat.lt_trichotomy k i with h | h | h
  ·have:=h1 k h;omega
  ·subst h;exact⟨hk,rfl⟩
  ·have a:=ziA hup h hk;have b:=h2 i (Nat.le_refl _) (by omega);omega
 ·rintro⟨hi,rfl⟩;exact⟨bl[i],List.getElem_mem _,by rw[za8 _ _ hi]⟩
theorem znx(a:Option Addr)(c:Nat)(bl:List Blk)(hlen:bl.length<=1099511627776)(hup:zcl bl)(t:Int)(w:World)(hrow:BRow w a bl) :
 Calls Tryz.prog 228 #[.slice a bl.length c,.int .i64 t,.func (.func 229) #[] #[]] w λe w'=>e=.returned (.tuple #[.int .i64 (loc bl t),.bool (zg7 bl t)])/\Below w.heap.size w w':=by
 go_enter Tryz.func228,Tryz.ntmps228;go_wp2
 go_loopw [9,10] (λx y wr=>∃ i j:Nat,x=.int .i64 i/\y=.int .i64 j/\i<=j/\j<=bl.length/\(∀ k,k<i->(bl.getD k (0,0)).1<t)/\(∀ k,j<=k->k<bl.length->t<=(bl.getD k (0,0)).1)/\Below w.heap.size w wr) (λx y _=>(intOf y - intOf x).toNat)
 case atStart=>exact⟨0,bl.length,rfl,rfl,Nat.zero_le _,Nat.le_refl _,λk h=>by omega,λk h h'=>by omega,Below.refl _ _⟩
 case round =>
  obtain⟨i,j,rfl,rfl,hij,hj,hlo,hhi,hb⟩:=hrel;have HF:=zaa (λx y w'=>zqD x y t w');have hrow':=zol hrow hb;by_cases hlt:i<j
  ·have hlt':(i:Int)<j:=by omega
   obtain⟨m,hm⟩:∃ m:Nat,((i:Int)+j) / 2=m:=⟨(i+j) / 2,by omega⟩;have hm1:i<=m:=by omega
   have hm2:m<j:=by omega
   rcases hrow' with h0 | ⟨g,rfl,hgl,hc⟩
   ·subst h0;simp at hj;omega
   obtain⟨c0,c1⟩:=hc m (by omega);have Hlo:=zaa (λk (hk:k<m)=>ziA hup hk (by omega));have Hhi:=zaa (λk (hk:m<k) (hl:k<bl.length)=>ziA hup hk hl);have hml:(m:Int)<bl.length:=by omega
   have Hb:=zaa hb;have HA:=zaa hlo;have HB:=zaa hhi;clear hc hb hlo hhi hrow hup;by_cases hx:(bl.getD m (0,0)).1<t
   ·have HX:Hid (∀ k,k<m+1->(bl.getD k (0,0)).1<t):=zaa (λk hk=>by
     rcases Nat.lt_or_ge k m with h | h
     ·have:=uh Hlo k h;omega
     ·obtain rfl:k=m:=by omega
      exact hx)
    have hq:zdD (bl.getD m (0,0)).1 t = -1:=by simp only[zdD,hx,if_true]
    have HF1:=zaa (λy w'=>uh HF (bl.getD m (0,0)).1 y w');rw[hq] at HF1;clear hx hq HF;generalize bl.getD m (0,0)=b at *;go_wp2_with (go_at_call 229;refine(uh HF1 _ _).mono ?_;rintro e w' ⟨rfl,rfl⟩);go_roundw
    case rel=>exact⟨m+1,j,by go_num,rfl,by omega,hj,uh HX,uh HB,(uh Hb).alloc (by have:=(uh Hb).size;omega) _⟩
    case measure=>simp[intOf];omega
   ·have HX:Hid (∀ k,m<=k->k<bl.length->t<=(bl.getD k (0,0)).1):=zaa (λk hk hl=>by
     rcases Nat.lt_or_ge m k with h | h
     ·have:=uh Hhi k h hl;omega
     ·obtain rfl:k=m:=by omega
      omega)
    obtain⟨q,hq,hq0⟩:∃ q:Int,zdD (bl.getD m (0,0)).1 t=q/\¬ q<0:=⟨_,rfl,by simp only[zdD,hx,if_false];split <;> omega⟩;have HF1:=zaa (λy w'=>uh HF (bl.getD m (0,0)).1 y w');rw[hq] at HF1;clear hx hq HF;generalize bl.getD m (0,0)=b at *;go_wp2_with (go_at_call 229;refine(uh HF1 _ _).mono ?_;rintro e w' ⟨rfl,rfl⟩);go_roundw
    case rel=>exact⟨i,m,rfl,by go_num,by omega,by omega,uh HA,uh HX,(uh Hb).alloc (by have:=(uh Hb).size;omega) _⟩
    case measure=>simp[intOf];omega
  ·obtain rfl:i=j:=by omega
   have HL:=zaa (loc_of hj hlo hhi);have HI:=zaa (zqh hup hlo hhi);have Hb:=zaa hb;by_cases hl:i<bl.length
   ·rcases hrow' with h0 | ⟨g,rfl,hgl,hc⟩
    ·subst h0;simp at hl
    obtain⟨c0,c1⟩:=hc i hl;have hil:(i:Int)<bl.length:=by omega
    clear hc hb hlo hhi hrow hup hlt;have hq:(zdD (bl.getD i (0,0)).1 t == 0)=decide (i<bl.length/\(bl.getD i (0,0)).1=t):=by
     rw[Bool.eq_iff_iff];simp only[zdD,beq_iff_eq,decide_eq_true_eq];repeat' split <;> omega
    have HI':=zaa ((uh HI).trans hq.symm);have HF1:=zaa (λy w'=>uh HF (bl.getD i (0,0)).1 y w');clear HF hq HI;generalize zdD (bl.getD i (0,0)).1 t=q at *;generalize bl.getD i (0,0)=b at *;go_wp2_with (go_at_call 229;refine(uh HF1 _ _).mono ?_;rintro e w' ⟨rfl,rfl⟩)
    go_ret2
    rw[uh HL,uh HI'];exact⟨rfl,(uh Hb).alloc (by have:=(uh Hb).size;omega) _⟩
   ·have hil:¬ (i:Int)<bl.length:=by omega
    have HI':Hid (zg7 bl t=false):=zaa (by rw[uh HI];simp;omega);clear hb hlo hhi hrow hup hlt hrow' HI;go_wp2
    go_ret2
    rw[uh HL,uh HI'];exact⟨rfl,uh Hb⟩
end Go.Proofs.YtieciibnajeibaaGreatDoor.Wk

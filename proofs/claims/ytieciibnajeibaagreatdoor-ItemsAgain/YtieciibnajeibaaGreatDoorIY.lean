import Derived.Test.YtieciibnajeibaaGreatDoorSP
set_option maxHeartbeats 8000000
set_option maxRecDepth 100000
namespace Go.Proofs.YtieciibnajeibaaGreatDoor.Wk
open Go.RowKit Go.Maps
theorem zv6(w:World)(e:TypeId)(size:Nat):(w.alloc (.cells #[] e)).ownsRow w.heap.size e size (.slice (some ⟨w.heap.size,0,none⟩) 0 0) 0 [] :=
 ⟨by simp,.inr ⟨w.heap.size,0,#[],rfl,zsG _,(MapKept.heap_alloc w _).1,zsG _,by decide,by simp,by simp⟩⟩
theorem zq4(v:Value)(bl:List Blk)(hlen:bl.length<=16384)(w:World)(h:w.ownsRow 0 244 2 v bl.length (zaF bl)) :
 Calls Tryz.prog 246 #[v] w λe w'=>∃ v',e=.returned v'/\w'.ownsRow w.heap.size 244 2 v' bl.length (zaF bl)/\Below w.heap.size w w':=by
 obtain⟨i0,hi,hz0,hz1,hz2⟩:=zah hblk;have q238:∀ (w:World) (a:Option Addr) (n c n' c':Nat),(binOp .eql 231 (.slice a n c) (.slice none n' c')).run Tryz.prog w=.ok (.bool a.isNone) w:=λw a n c n' c'=>Lib.run_eql_slice_nil w _ _ a n c n' c' Tryz.underlying231;rcases h.2 with ⟨rfl,h0⟩ | ⟨g,cap,cur,rfl,_⟩
 ·obtain rfl:bl=[]:=List.length_eq_zero_iff.1 h0;clear h;go_enter Tryz.func246,Tryz.ntmps246;go_wp2;go_ret;exact⟨_,rfl,⟨rfl,.inl ⟨rfl,rfl⟩⟩,zsY _ _⟩
 ·have hg:g<w.heap.size:=(h.lt g rfl).2
  have Hn:Hid (∀ j u,(zaF bl)[j]? = some u->(w.alloc (.cells #[] 244)).cell? ((⟨g,0,none⟩:Addr).add j)=some u):=zaa (λj u hu=>by
   have:=h.cells (g:=g) rfl j u hu;rw[Go.WideShapes.add_plain] at this ⊢
   exact(((zsY _ w).alloc (zsG _) _).cell (p:=⟨g,0+j,none⟩) hg).trans this)
  have Hl:Hid ((zaF bl).length=bl.length * 2):=zaa (by rw[zaN]);have Hlit:=zaa (zv6 w 244 2);clear h;go_enter Tryz.func246,Tryz.ntmps246;go_wp2_with (at_builtin;refine wpList_append_own _ rfl _ _ 231 rfl w.heap.size 244 i0 (.agg #[.int .i64 0,.int .u64 0]) 2 16 Tryz.underlying231 hi hz0 hz1 hz2 rfl (by decide) _ 0 [] rfl (uh Hlit) ⟨g,0,none⟩ bl.length cap (zaF bl) rfl (uh Hl) (uh Hn) (zhc bl) (by unfold maxLen;omega) (by omega) (by simp) ?_);intro v2 W2 hown2 hg2 hv2;have hb2:Below w.heap.size w W2:=((zsY _ w).alloc (zsG _) _).grown hg2 (by simp) (λk hk=>by simp[Value.ownBlock] at hk;omega);have Hown2:=zaa hown2;have Hb2:=zaa hb2;clear hown2 hb2 hg2 hv2;go_wp2;go_ret;exact⟨_,rfl,uh Hown2,uh Hb2⟩
variable{B:Nat}{v:Value}{w:World}
theorem zsp{e:TypeId}{size:Nat}{n:Nat}{xs:List Value}(h:w.ownsRow B e size v n xs):w.ownsRow 0 e size v n xs:=by
 refine⟨h.1,?_⟩;rcases h.2 with h0 | ⟨g,cap,cur,rfl,hg,rest⟩
 ·exact .inl h0
 ·exact .inr ⟨g,cap,cur,rfl,zsK _,rest⟩
theorem ztR{W1:World}{O:Nat->Prop}{bl:List Blk}{sz:Int}(h:SetOk w B O bl sz)(hown:W1.ownsRow w.heap.size 244 2 v bl.length (zaF bl)) :
 SetOk (W1.alloc (.cells #[v,.int .i64 sz] 233)) W1.heap.size (λk=>k=W1.heap.size\/v.ownBlock=some k) bl sz:=by
 refine⟨⟨.inl rfl,λk hk=>?_,h.is.up,h.is.short,v,(MapKept.heap_alloc W1 _).1,zsp (hown.alloc _),λk hk=>.inr hk⟩,h.fit,h.full⟩;rw[World.size_alloc];rcases hk with rfl | hk
 ·omega
 ·have:=(hown.lt k hk).2;omega
theorem copyS_any(B:Nat)(O:Nat->Prop)(bl:List Blk)(sz:Int)(w:World)(h:SetOk w B O bl sz) :
 Calls Tryz.prog 227 #[.pointer (some ⟨B,0,none⟩)] w λe w'=>∃ Z,e=.returned (.pointer (some ⟨Z,0,none⟩))/\Below w.heap.size w w'/\∃ O',SetOk w' Z O' bl sz/\∀ k,O' k->w.heap.size<=k:=by
 obtain⟨sv,hB,hr,hs⟩:=h.is.lies;have hlen:=zdd h.is.up h.fit;have c0:=cell_block hB 0 _ rfl;have c1:=cell_block hB 1 _ rfl;have hlt:=lt_of_some hB;have HC:=zaa (zq4 sv bl hlen w.drew hr);have HD:=zaa (λ(v:Value) (W1:World) (h1:W1.ownsRow w.heap.size 244 2 v bl.length (zaF bl)) (h2:Below w.heap.size w.drew W1)=>show _/\_ from⟨ztR h h1,(h2.cell (p:=⟨B,1,none⟩) hlt).trans c1⟩);clear h hB hr hs;go_enter Tryz.func227,Tryz.ntmps227;go_wp2
 go_region_with (go_at_call 246;refine(uh HC).mono ?_;rintro e W1 ⟨v1,rfl,hown1,hb1⟩;obtain⟨va1,vc1,rfl⟩:=zaf hown1;obtain⟨hok1,c2⟩:=uh HD _ W1 hown1 hb1;have Hok1:=zaa hok1;have Hown1:=zaa hown1;have Hb1:=zaa hb1;clear hok1 hown1 hb1)
 all_goals
  go_wp2;go_ret;refine⟨_,rfl,?_,_,uh Hok1,λk hk=>?_⟩
  ·have hb:=(zsY w.heap.size w).drew.trans (uh Hb1);exact hb.alloc hb.size _
  ·have hb:=(uh Hb1).size;rcases hk with rfl | hk
   ·exact hb
   ·exact((uh Hown1).lt k hk).1
theorem addS_mem:∀ (l:List Int) (h:Int->Bool) (n:Int) (m:Int),(l.foldl (λ(p:(Int->Bool) × Int) n=>((λm=>if m=n then true else p.1 m),p.2+ziN (p.1 n))) (h,n)).1 m=(h m || decide (m ∈ l))
 | [],h,n,m=>by simp
 | x::xs,h,n,m=>by
   rw[List.foldl_cons,addS_mem xs];by_cases e:m=x
   ·simp[e]
   ·simp[e]
theorem zrx(a:Option Addr)(c:Nat)(B:Nat)(w:World):Calls Tryz.prog 150 #[.pointer (some ⟨B,0,none⟩),.slice a 0 c] w λe w'=>e=.returned (.tuple #[.int .i64 0,.int .i64 0])/\w'=w:=by
 have HA:=zaa (zcZ a c [] (by decide) w (.inl rfl));rw[show numsB []=true from rfl,show ([]:List Int).length=0 from rfl] at HA;go_enter Tryz.func150,Tryz.ntmps150;go_wp2_with (go_at_call 194;refine(uh HA).mono ?_;rintro e w' ⟨rfl,hw⟩;obtain rfl:=hw.symm)
 go_loop [16,6] (λx y=>x=.int .i64 0/\y=.int .i64 0) (λx _=>0)
 case atStart=>exact⟨rfl,rfl⟩
 case round =>
  obtain⟨rfl,rfl⟩:=hrel;go_wp2
  go_ret2
  exact⟨rfl,rfl⟩
theorem new_zeroA(a:Option Addr)(c:Nat)(w:World):Calls Tryz.prog 113 #[.slice a 0 c] w λe w'=>e=.returned (.tuple #[.pointer (some ⟨w.heap.size,0,none⟩),.int .i64 0])/\w'=w.alloc (.cells #[.slice none 0 0,.int .i64 0] 233):=by
 have HA:=zaa (zrx a c w.heap.size (w.alloc (.cells #[.slice none 0 0,.int .i64 0] 233)));go_enter Tryz.func113,Tryz.ntmps113;go_wp2_with (go_at_call 150;refine(uh HA).mono ?_;rintro e w1 ⟨rfl,hw⟩;obtain rfl:=hw.symm)
 go_ret2
 exact⟨rfl,rfl⟩
end Go.Proofs.YtieciibnajeibaaGreatDoor.Wk
namespace Go.Proofs.YtieciibnajeibaaGreatDoor
open Go.RowKit
def inR(l:List Int):Int->Bool:=λm=>decide (m ∈ l)
variable{B b cap cb g gb i j k kk m tb:Nat}{E P e p v:Value}{G:Gm}{R:Nat->Prop}{W w w':World}{a:Option Addr}{x:Int}
theorem zwj(l:List Int)(hx:∀ x,x ∈ l->0<=x/\x<1048576){M:Nat}{O2:Nat->Prop}{bl':List Wk.Blk}(hok2:Wk.SetOk w B O2 bl' (0+(Wk.addS (Wk.hasB []) l).2))(hh:∀ m,Wk.hasB bl' m=(Wk.addS (Wk.hasB []) l).1 m)(hO2:∀ k,O2 k->M<=k):∃ O,SetN w B O (inR l)/\∀ k,O k->M<=k:=by
 have hs:(Wk.addS (Wk.hasB []) l).1=inR l:=by
  funext m;unfold Wk.addS;rw[Wk.addS_mem,Wk.has_nil];rfl
 have hn:(0:Int)+(Wk.addS (Wk.hasB []) l).2=(Wk.cnt 1048576 (inR l):Nat):=by
  have:=Wk.addS_cnt 1048576 (Wk.hasB []) l (λk hk=>hx (l.getD k 0) (zbg hk)) l.length (zsG _);rw[List.take_of_length_le (zsG _),hs,Wk.cnt_zero 1048576 _ Wk.has_nil] at this;rw[this];simp
 obtain⟨O3,h5,h6⟩:=zct hok2 (f:=inR l) (λm=>(hh m).trans (by rw[hs])) hn;exact⟨O3,h5,λk hk=>hO2 k (h6 k hk)⟩
theorem zll(a:Option Addr)(c:Nat)(l:List Int)(hl:l.length<=1048576)(hx:∀ x,x ∈ l->0<=x/\x<1048576)(w:World)(h:NRow w.heap.size w a l) :
 Calls Tryz.prog 113 #[.slice a l.length c] w λe w'=>e=.returned (.tuple #[.pointer (some ⟨w.heap.size,0,none⟩),.int .i64 0])/\Below w.heap.size w w'/\∃ O,SetN w' w.heap.size O (inR l)/\∀ k,O k->w.heap.size<=k:=by
 have hb1:Below w.heap.size w (w.alloc (.cells #[.slice none 0 0,.int .i64 0] 233)):=(zsY _ _).alloc (zsG _) _;have hb:(w.alloc (.cells #[.slice none 0 0,.int .i64 0] 233)).heap[w.heap.size]? = some (.cells #[.slice none 0 0,.int .i64 0] 233 (0,0)):=zsH _ _;have hok:=Wk.set_zero hb;by_cases h0:l=[]
 ·subst h0;refine(Wk.new_zeroA a c w).mono ?_;rintro e w' ⟨rfl,rfl⟩;refine⟨rfl,hb1,?_⟩;obtain⟨O3,h5,h6⟩:=zct (f:=inR []) hok (λm=>by rw[Wk.has_nil];simp[inR]) (by rw[Wk.cnt_zero _ _ (λ_=>by simp[inR])];rfl);exact⟨O3,h5,λk hk=>by have:=h6 k hk;omega⟩
 have hnum:Wk.numsB l=true:=by
  unfold Wk.numsB;simp only[List.all_eq_true];intro x hm;have:=hx x hm;simp;omega
 obtain⟨b,off,ha,hlt,hc⟩:=h.resolve_left h0;have hrow:Wk.NRow (w.alloc (.cells #[.slice none 0 0,.int .i64 0] 233)) a l:=.inr ⟨b,off,ha,by simp;omega,λj hj=>(hb1.cell (p:=⟨b,off+j,none⟩) hlt).trans (hc j hj)⟩;have hap:∀ x,a=some x->¬ (x.block=w.heap.size):=λx e=>by
  rw[ha] at e;cases e;show ¬ b=_;omega
 have HA:=zaa (Wk.add_any w.heap.size (· = w.heap.size) [] 0 a c l hnum (by omega) _ hok hrow hap);have Hb1:=zaa hb1;clear hb hok hrow hap h hc hb1 ha hlt h0;go_enter Tryz.func113,Tryz.ntmps113;go_wp2_with fail;refine(uh HA).mono ?_;rintro e w2 ⟨rfl,ho,bl',O2,hok2,hO2,hh⟩;have Hb2:Hid (Below w.heap.size w w2):=zaa ((uh Hb1).trans ⟨ho.os,ho.tape,ho.output,ho.size,λk hk=>ho.block k (by simp;omega) (by omega)⟩);have Hset:Hid (∃ O,SetN w2 w.heap.size O (inR l)/\∀ k,O k->w.heap.size<=k):=zaa (zwj l hx hok2 hh (λk hk=>(hO2 k hk).elim (λe=>by omega) (λe=>by simp at e;omega)));clear ho hok2 hO2 hh HA;go_wp2;refine bodyPost_ret (v:=.tuple #[.pointer (some ⟨w.heap.size,0,none⟩),.int .i64 0]) ?zz9 rfl ⟨rfl,uh Hb2,uh Hset⟩
 case zz9=>simp[results,Tryz.results113,go_sem]
theorem zcD(a:Option Addr)(c:Nat)(l:List Int)(hl:l.length<=1048576)(hx:∀ x,x ∈ l->0<=x/\x<1048576)(w:World)(h:NRow w.heap.size w a l) :
 Calls Tryz.prog 65 #[.slice a l.length c] w λe w'=>e=.returned (.pointer (some ⟨w.heap.size,0,none⟩))/\Below w.heap.size w w'/\∃ O,SetN w' w.heap.size O (inR l)/\∀ k,O k->w.heap.size<=k:=by
 have HN:=zaa (zll a c l hl hx w h);clear h hx;go_enter Tryz.func65,Tryz.ntmps65;go_wp2_with fail;refine(uh HN).mono ?_;rintro e w2 ⟨rfl,hb2,hset⟩;have Hb2:=zaa hb2;have Hset:=zaa hset;clear hb2 hset;go_wp2;go_ret;exact⟨rfl,uh Hb2,uh Hset⟩
theorem copy_n(A:Nat)(O:Nat->Prop)(f:Int->Bool)(w:World)(h:SetN w A O f) :
 Calls Tryz.prog 227 #[.pointer (some ⟨A,0,none⟩)] w λe w'=>∃ Z O',e=.returned (.pointer (some ⟨Z,0,none⟩))/\Below w.heap.size w w'/\SetN w' Z O' f/\∀ k,O' k->w.heap.size<=k:=by
 obtain⟨bl,h1,h2⟩:=h.ok;refine(Wk.copyS_any A O bl _ w h1).mono ?_;rintro e w' ⟨Z,rfl,hb,O',hok,hO⟩;obtain⟨O3,h5,h6⟩:=zct hok h2 rfl;exact⟨Z,O3,rfl,hb,h5,λk hk=>hO k (h6 k hk)⟩
theorem zuE(A A':Nat)(O O':Nat->Prop)(f g:Int->Bool)(w:World)(h:SetN w A O f)(h':SetN w A' O' g)(hd:∀ k,O' k->¬ O k) :
 Calls Tryz.prog 117 #[.pointer (some ⟨A,0,none⟩),.pointer (some ⟨A',0,none⟩)] w λe w'=>e=.returned (.int .i64 ((Wk.cnt 1048576 (orF f g):Nat) - (Wk.cnt 1048576 f:Nat):Int))/\Fr O w w'/\∃ O2,SetN w' A O2 (orF f g)/\∀ k,O2 k->O k\/w.heap.size<=k:=by
 obtain⟨bl,h1,h2⟩:=h.ok;obtain⟨cl,h3,h4⟩:=h'.ok;have hc:=Wk.cnt_le 1048576 f;have hj:∀ m,(Wk.joinS (Wk.hasB bl) cl).1 m=orF f g m:=λm=>by
  rw[Wk.join_has _ h3.is.up h3.fit,h2,h4];rfl
 have hn:((Wk.cnt 1048576 f:Nat):Int)+(Wk.joinS (Wk.hasB bl) cl).2=(Wk.cnt 1048576 (orF f g):Nat):=by
  rw[Wk.join_cnt _ h3.fit,Wk.cnt_same 1048576 _ _ hj,Wk.cnt_same 1048576 _ _ h2];omega
 refine(Wk.join_any A A' O O' bl cl _ _ (by omega) w h1 h3 hd).mono ?_;rintro e w' ⟨rfl,ho,bl',O2,hok,hO2,hh⟩;obtain⟨O3,h5,h6⟩:=zct hok (λm=>(hh m).trans (hj m)) hn;exact⟨by rw[show ((Wk.cnt 1048576 (orF f g):Nat):Int) - (Wk.cnt 1048576 f:Nat)=(Wk.joinS (Wk.hasB bl) cl).2 by omega],zdb ho,O3,h5,λk hk=>hO2 k (h6 k hk)⟩
theorem zly(A:Nat)(O:Nat->Prop)(f:Int->Bool)(w:World)(h:SetN w A O f) :
 Calls Tryz.prog 117 #[.pointer (some ⟨A,0,none⟩),.pointer (some ⟨A,0,none⟩)] w λe w'=>e=.returned (.int .i64 0)/\Below w.heap.size w w':=by
 obtain⟨bl,h1,h2⟩:=h.ok;have hc:=Wk.cnt_le 1048576 f;refine(Wk.join_self A O bl _ (by omega) w h1).mono ?_;rintro e w' ⟨rfl,hb⟩;exact⟨rfl,hb⟩
noncomputable def zf7(G:Gm)(row:List Int):Int->Bool:=λm=>decide (0<=m) && zet G.nk (zat G) (zdy G) row m.toNat
noncomputable def fsF(G:Gm)(q:Nat):Int->Bool:=λm=>decide (0<=m) && zdy G q m.toNat
theorem zud(G:Gm):zf7 G []=λ_=>false:=by funext m;unfold zf7 zet;simp
theorem zri(h0:0<=x)(h:x<G.nk)(row:List Int):zf7 G (x::row)=inR [x]:=by
 funext m;unfold zf7 zet inR;rw[if_pos h,Bool.eq_iff_iff];simp only[Bool.and_eq_true,decide_eq_true_eq,List.mem_singleton];omega
theorem zrg(h:¬ x<G.nk)(hn:zat G (x - G.nk).toNat=false)(row:List Int):zf7 G (x::row)=fsF G (x - G.nk).toNat:=by
 funext m;unfold zf7 zet fsF;rw[if_neg h,hn,Bool.false_and,Bool.or_false]
theorem zrh(h:¬ x<G.nk)(hn:zat G (x - G.nk).toNat=true)(row:List Int):zf7 G (x::row)=orF (fsF G (x - G.nk).toNat) (zf7 G row):=by
 funext m;show (decide (0<=m) && zet _ _ _ (x::row) m.toNat)=(fsF G (x - G.nk).toNat m || zf7 G row m);unfold zf7 fsF
 rw[show zet G.nk (zat G) (zdy G) (x::row) m.toNat=(zdy G (x - G.nk).toNat m.toNat || zet G.nk (zat G) (zdy G) row m.toNat) by
  show (if x<G.nk then _ else _)=_
  rw[if_neg h,hn,Bool.true_and]]
 cases decide (0<=m) <;> simp
theorem zqI(h:x<G.nk)(row:List Int):zar G.nk (zat G) (x::row)=false:=by
 unfold zar;rw[List.all_cons,decide_eq_false (by omega)];rfl
theorem zqH(h:¬ x<G.nk)(row:List Int):zar G.nk (zat G) (x::row)=(zat G (x - G.nk).toNat && zar G.nk (zat G) row):=by
 unfold zar;rw[List.all_cons,decide_eq_true (by omega),Bool.true_and]
theorem zbp(h:Fr (λk=>¬ R k) w w')(hb:R b)(hv:w.cell? ⟨b,j,none⟩=some v):w'.cell? ⟨b,j,none⟩=some v:=by
 have hlt:b<w.heap.size:=zsQ w _ hv;rw[<- hv];exact zsL (h.2.1 b hlt (λhn=>hn hb))
theorem zbT(h:Fr (λk=>¬ R k) w w')(hb:R b){o:Obj}(hv:w.heap[b]? = some o):w'.heap[b]? = some o :=
 (h.2.1 b (zsO.1 hv).1 (λhn=>hn hb)).trans hv
theorem zqv(h:Fr (λk=>¬ R k) w w')(hR:∀ k,k<B->R k)(hB:B<=w.heap.size):Below B w w' :=
 ⟨h.2.2.1,h.2.2.2.1,h.2.2.2.2,h.1,λk hk=>h.2.1 k (by omega) (λhn=>hn (hR k hk))⟩
theorem zba(h:Below w.heap.size w w'):Fr (λk=>¬ R k) w w':=⟨h.size,λk hk _=>h.block k hk,h.os,h.tape,h.output⟩
theorem ze5{A:Nat}{O:Nat->Prop}{f:Int->Bool}(h:SetN w A O f)(hO:∀ k,O k->R k)(hf:Fr (λk=>¬ R k) w w'):SetN w' A O f:=zaz h hf (λk hk hn=>hn (hO k hk))
def zfA(G:Gm)(q:Nat):List Int:=((List.range G.prods.length).filter λp=>decide ((G.prods.getD p pd0).left=(q:Int))).map λ(p:Nat)=>(p:Int)
def zkL(R:Nat->Prop)(w:World)(a:Option Addr)(l:List Int):Prop :=
 l=[]\/∃ b off,a=some ⟨b,off,none⟩/\R b/\∀ j,j<l.length->w.cell? ⟨b,off+j,none⟩=some (.int .i64 (l.getD j 0))
theorem ziL{l:List Int}(h:zkL R w a l)(hf:Fr (λk=>¬ R k) w w'):zkL R w' a l:=by
 rcases h with h | ⟨b,off,h1,h2,h3⟩
 ·exact .inl h
 ·exact .inr ⟨b,off,h1,h2,λj hj=>zbp hf h2 (h3 j hj)⟩
def NlAt(R:Nat->Prop)(w:World)(na:Option Addr)(G:Gm):Prop:=∀ q,q<G.nr->∃ b off,na=some ⟨b,off,none⟩/\R b/\w.cell? ⟨b,off+q,none⟩=some (.bool (zat G q))
def FsAt(R:Nat->Prop)(w:World)(fa:Option Addr)(G:Gm):Prop:=∀ q,q<G.nr->∃ b off Z O,fa=some ⟨b,off,none⟩/\R b/\w.cell? ⟨b,off+q,none⟩=some (.pointer (some ⟨Z,0,none⟩))/\SetN w Z O (fsF G q)/\∀ k,O k->R k
def OwAt(R:Nat->Prop)(w:World)(oa:Option Addr)(G:Gm):Prop:=∀ q,q<G.nr->∃ b off a c,oa=some ⟨b,off,none⟩/\R b/\w.cell? ⟨b,off+q,none⟩=some (.slice a (zfA G q).length c)/\zkL R w a (zfA G q)
def ClB(R:Nat->Prop)(B:Nat)(w:World)(cb gb tb:Nat)(G:Gm):Prop:=∃ na nc fa fc oa oc rc,w.heap[cb]? = some (.cells #[.pointer (some ⟨gb,0,none⟩),.slice na G.nr nc,.slice fa G.nr fc,.slice oa G.nr oc,.slice (some ⟨tb,0,none⟩) (G.prods.length+1) rc] 109 (0,0))/\R cb/\GmB B w gb G/\B<=w.heap.size/\(∀ k,k<B->R k)/\NlAt R w na G/\FsAt R w fa G/\OwAt R w oa G
theorem zbb(h:ClB R B w cb gb tb G)(hf:Fr (λk=>¬ R k) w w'):ClB R B w' cb gb tb G:=by
 obtain⟨na,nc,fa,fc,oa,oc,rc,h1,h2,h3,h4,h5,h6,h7,h8⟩:=h;refine⟨na,nc,fa,fc,oa,oc,rc,zbT hf h2 h1,h2,zaX (zqv hf h5 h4) h3,zsy h4 hf.1,h5,λq hq=>?_,λq hq=>?_,λq hq=>?_⟩
 ·obtain⟨b,off,e,hb,hc⟩:=h6 q hq;exact⟨b,off,e,hb,zbp hf hb hc⟩
 ·obtain⟨b,off,Z,O,e,hb,hc,hs,hO⟩:=h7 q hq;exact⟨b,off,Z,O,e,hb,zbp hf hb hc,ze5 hs hO hf,hO⟩
 ·obtain⟨b,off,a,c,e,hb,hc,hr⟩:=h8 q hq;exact⟨b,off,a,c,e,hb,zbp hf hb hc,ziL hr hf⟩
theorem zgw{R':Nat->Prop}(h:ClB R B w cb gb tb G)(hR:∀ k,R k->R' k):ClB R' B w cb gb tb G:=by
 obtain⟨na,nc,fa,fc,oa,oc,rc,h1,h2,h3,h4,h5,h6,h7,h8⟩:=h;refine⟨na,nc,fa,fc,oa,oc,rc,h1,hR _ h2,h3,h4,λk hk=>hR k (h5 k hk),λq hq=>?_,λq hq=>?_,λq hq=>?_⟩
 ·obtain⟨b,off,e,hb,hc⟩:=h6 q hq;exact⟨b,off,e,hR _ hb,hc⟩
 ·obtain⟨b,off,Z,O,e,hb,hc,hs,hO⟩:=h7 q hq;exact⟨b,off,Z,O,e,hR _ hb,hc,hs,λk hk=>hR k (hO k hk)⟩
 ·obtain⟨b,off,a,c,e,hb,hc,hr⟩:=h8 q hq;refine⟨b,off,a,c,e,hR _ hb,hc,?_⟩;rcases hr with hr | ⟨b',off',r1,r2,r3⟩
  ·exact .inl hr
  ·exact .inr ⟨b',off',r1,hR _ r2,r3⟩
theorem ze1{t:TypeId}(h:W.heap[b]? = some (.cells #[p,e] t (0,0))):((W.setCell ⟨b,0,none⟩ P).setCell ⟨b,1,none⟩ E).heap[b]? = some (.cells #[P,E] t (0,0)):=by
 rw[Wk.block_set (Wk.block_set h _) _];rfl
theorem zc6{t:TypeId}(h:W.heap[b]? = some (.cells #[p,e] t (0,0)))(hb:Below w.heap.size w W)(hlt:w.heap.size<=b):∃ WF,WF=(W.setCell ⟨b,0,none⟩ P).setCell ⟨b,1,none⟩ E/\WF.cell? ⟨b,0,none⟩=some P/\WF.cell? ⟨b,1,none⟩=some E/\Below w.heap.size w WF/\Fr (· = b) W WF:=by
 have h2:=ze1 (P:=P) (E:=E) h;have hf:Fr (· = b) W ((W.setCell ⟨b,0,none⟩ P).setCell ⟨b,1,none⟩ E):=zaD (zaD (zax (λx=>x=b) W) (p:=⟨b,0,none⟩) rfl P) (p:=⟨b,1,none⟩) rfl E;exact⟨_,rfl,zac h2 0 rfl,zac h2 1 rfl,hb.trans (zau hf hb.size (λk hk=>by omega)),hf⟩
theorem zjQ(R:Nat->Prop)(B cb gb tb:Nat)(G:Gm)(hG:GOk G)(x:Int)(hx:0<=x/\x<(G.nk:Int)+G.nr)(row:List Int)(Z:Nat)(O:Nat->Prop)(w:World)(h:ClB R B w cb gb tb G)(hz:SetN w Z O (zf7 G row))(hOR:∀ k,O k->R k) :
 Calls Tryz.prog 201 #[.pointer (some ⟨cb,0,none⟩),.int .i64 x,.agg #[.pointer (some ⟨Z,0,none⟩),.bool (zar G.nk (zat G) row)]] w λe w'=>∃ Z' O',e=.returned (.agg #[.pointer (some ⟨Z',0,none⟩),.bool (zar G.nk (zat G) (x::row))])/\Below w.heap.size w w'/\SetN w' Z' O' (zf7 G (x::row))/\∀ k,O' k->R k\/w.heap.size<=k:=by
 have hk3:=hG.k3;have hr2:=hG.r2;obtain⟨na,nc,fa,fc,oa,oc,rc,hbox,hRc,hgm,hBw,hRB,hN,hF,-⟩:=h;have c0:=zac hbox 0 rfl;have c1:=zac hbox 1 rfl;have c2:=zac hbox 2 rfl;have Hru:=zaa (λ(W:World) (hb:Below B w W)=>zjN B gb G hG x (by omega) W (zaX hb hgm));have hb0:∀ e0,Below w.heap.size w ((w.alloc (.cells #[.pointer (some ⟨Z,0,none⟩),.bool e0] 182)).alloc (.cells #[.pointer none,.bool false] 182)):=λe0=>((zsY _ _).alloc (zsG _) _).alloc (by simp) _;have hbx0:∀ e0,((w.alloc (.cells #[.pointer (some ⟨Z,0,none⟩),.bool e0] 182)).alloc (.cells #[.pointer none,.bool false] 182)).heap[w.heap.size+1]? = some (.cells #[.pointer none,.bool false] 182 (0,0)):=λe0=>by
  have:=zsH (w.alloc (.cells #[.pointer (some ⟨Z,0,none⟩),.bool e0] 182)) (.cells #[.pointer none,.bool false] 182);simpa using this
 have hbr0:∀ e0,((w.alloc (.cells #[.pointer (some ⟨Z,0,none⟩),.bool e0] 182)).alloc (.cells #[.pointer none,.bool false] 182)).heap[w.heap.size]? = some (.cells #[.pointer (some ⟨Z,0,none⟩),.bool e0] 182 (0,0)):=λe0 =>
  (zsZ _ _ _ (by simp)).trans (zsH w _)
 by_cases hxk:x<(G.nk:Int)
 ·rw[zqI hxk,zri hx.1 hxk];have e1:¬ (G.kinds.length:Int)<=x:=by have:=hxk;unfold Gm.nk at this;omega
  rw[if_neg e1,decide_eq_false e1] at Hru;generalize zar G.nk (zat G) row=e0 at *;have Hb0:=zaa (hb0 e0);have hbx:=hbx0 e0;have c0:=zac (zbT (R:=R) (zba (hb0 e0)) hRc hbox) 0 rfl;have Hx:=zaa hx;clear hN hF hbox hRB hb0 hbx0 hbr0 hgm;go_enter Tryz.func201,Tryz.ntmps201;go_wp2_with fail;generalize (w.alloc (.cells #[.pointer (some ⟨Z,0,none⟩),.bool e0] 182)).alloc (.cells #[.pointer none,.bool false] 182)=W0 at *;go_wp2_with fail;refine(uh Hru W0 (zab (uh Hb0) hBw)).mono ?_;rintro e w1 ⟨rfl,rfl⟩;go_wp2_with fail;refine(zcD (some ⟨W0.heap.size,0,none⟩) 1 [x] (by simp) (λy hy=>by rw[List.mem_singleton] at hy;rw[hy];have:=uh Hx;omega) (W0.alloc (.cells #[.int .i64 x] 3)) (.inr ⟨_,0,rfl,by simp,λj hj=>?_⟩)).mono ?_
  ·obtain rfl:j=0:=by simp at hj;omega
   exact zac (zsH W0 _) 0 rfl
  rintro e w2 ⟨rfl,hb2,O2,hs2,hO2⟩;have hb02:Below W0.heap.size W0 w2:=((zsY _ _).alloc (zsG _) _).trans (zab hb2 (by simp));have hW0:=(uh Hb0).size;have hbx2:=(hb02.block _ (zsO.1 hbx).1).trans hbx;have hlt0:=(zsO.1 hbx).1;have hs1:(W0.alloc (.cells #[.int .i64 x] 3)).heap.size=W0.heap.size+1:=by simp
  rw[hs1] at hs2 hO2;obtain⟨WF,hWF,r0,r1,hbF,hfF⟩:=zc6 (P:=.pointer (some ⟨W0.heap.size+1,0,none⟩)) (E:=.bool false) hbx2 ((uh Hb0).trans (zab hb02 hW0)) (by omega);have hsF:SetN WF (W0.heap.size+1) O2 (inR [x]):=zaz hs2 hfF (λk hk e=>by have:=hO2 k hk;omega);have Hfin:=zaa (And.intro hbF (And.intro hsF (λk (hk:O2 k)=>show R k\/w.heap.size<=k from .inr (by have:=hO2 k hk;omega))));have u0:=zac hbx2 0 rfl;have u1:=zac hbx2 1 rfl;have z0:=Wk.frozen_block hbx2 0;have z1:=Wk.frozen_block hbx2 1;clear hbF hsF hfF hs2 hO2 hb2 hb02 hbx2 hbx hs1;go_wp2_with fail;rw[<- hWF];refine bodyPost_ret (v:=.agg #[.pointer (some ⟨W0.heap.size+1,0,none⟩),.bool false]) ?zz9 rfl ⟨_,O2,rfl,uh Hfin⟩
  case zz9=>simp[results,Tryz.results201,go_sem,r0,r1]
 ·obtain⟨q,rfl⟩:∃ q:Nat,x=(G.nk:Int)+q:=⟨(x - G.nk).toNat,by omega⟩;have hq:q<G.nr:=by omega
  have hqn:((G.nk:Int)+(q:Int) - (G.nk:Int)).toNat=q:=by omega
  have e1:(G.kinds.length:Int)<=(G.nk:Int)+q:=by unfold Gm.nk;omega
  rw[if_pos e1,decide_eq_true e1,show (G.nk:Int)+(q:Int) - (G.kinds.length:Int)=(q:Int) by unfold Gm.nk;omega] at Hru;rw[zqH hxk,hqn];obtain⟨nb,noff,rfl,hnb,n0⟩:=hN q hq;obtain⟨fb,foff,FZ,FO,rfl,hfb,f0,hfs,hfO⟩:=hF q hq;have hq':(q:Int)<(G.nr:Int):=by omega
  cases hnl:zat G q with
  | false =>
    rw[zrg hxk (by rw[hqn];exact hnl),hqn,Bool.false_and];rw[hnl] at n0;generalize zar G.nk (zat G) row=e0 at *;have Hb0:=zaa (hb0 e0);have hbx:=hbx0 e0;have hfr0:Fr (λk=>¬ R k) w _:=zba (hb0 e0);have c0:=zac (zbT hfr0 hRc hbox) 0 rfl;have c1:=zac (zbT hfr0 hRc hbox) 1 rfl;have c2:=zac (zbT hfr0 hRc hbox) 2 rfl;have n0':=zbp hfr0 hnb n0;have f0':=zbp hfr0 hfb f0;have Hfs:=zaa (ze5 hfs hfO hfr0);have HfL:=zaa (λk (hk:FO k)=>zaO hfs hk);clear hN hF hbox hRB hb0 hbx0 hbr0 hgm hfr0 n0 f0 hfs hxk e1 hnl hqn hx;generalize (G.nk:Int)+(q:Int)=x at *;go_enter Tryz.func201,Tryz.ntmps201;go_wp2_with fail;generalize (w.alloc (.cells #[.pointer (some ⟨Z,0,none⟩),.bool e0] 182)).alloc (.cells #[.pointer none,.bool false] 182)=W0 at *;go_wp2_with fail;refine(uh Hru W0 (zab (uh Hb0) hBw)).mono ?_;rintro e w1 ⟨rfl,rfl⟩;have hlt0:=(zsO.1 hbx).1;obtain⟨WF,hWF,r0,r1,hbF,hfF⟩:=zc6 (P:=.pointer (some ⟨FZ,0,none⟩)) (E:=.bool false) hbx (uh Hb0) (by omega);have hsF:SetN WF FZ FO (fsF G q):=zaz (uh Hfs) hfF (λk hk e=>by have:=uh HfL k hk;omega);have Hfin:=zaa (And.intro hbF (And.intro hsF (λk (hk:FO k)=>show R k\/w.heap.size<=k from .inl (hfO k hk))));have u0:=zac hbx 0 rfl;have u1:=zac hbx 1 rfl;have z0:=Wk.frozen_block hbx 0;have z1:=Wk.frozen_block hbx 1;clear hbF hsF hfF hbx Hru;go_wp2_with fail;rw[<- hWF];refine bodyPost_ret (v:=.agg #[.pointer (some ⟨FZ,0,none⟩),.bool false]) ?zz9 rfl ⟨_,FO,rfl,uh Hfin⟩
    case zz9=>simp[results,Tryz.results201,go_sem,r0,r1]
  | true =>
    rw[zrh hxk (by rw[hqn];exact hnl),hqn,Bool.true_and];rw[hnl] at n0;generalize zar G.nk (zat G) row=e0 at *;have Hb0:=zaa (hb0 e0);have hbx:=hbx0 e0;have hbr:=hbr0 e0;have hfr0:Fr (λk=>¬ R k) w _:=zba (hb0 e0);have c0:=zac (zbT hfr0 hRc hbox) 0 rfl;have c1:=zac (zbT hfr0 hRc hbox) 1 rfl;have c2:=zac (zbT hfr0 hRc hbox) 2 rfl;have n0':=zbp hfr0 hnb n0;have f0':=zbp hfr0 hfb f0;have Hfs:=zaa (ze5 hfs hfO hfr0);have Hzs:=zaa (ze5 hz hOR hfr0);have HzL:=zaa (λk (hk:O k)=>zaO hz hk);clear hN hF hbox hRB hb0 hbx0 hbr0 hgm hfr0 n0 f0 hfs hxk e1 hnl hqn hx hz;generalize (G.nk:Int)+(q:Int)=x at *;go_enter Tryz.func201,Tryz.ntmps201;go_wp2_with fail;generalize (w.alloc (.cells #[.pointer (some ⟨Z,0,none⟩),.bool e0] 182)).alloc (.cells #[.pointer none,.bool false] 182)=W0 at *;have hW0:=(uh Hb0).size;go_wp2_with fail;refine(uh Hru W0 (zab (uh Hb0) hBw)).mono ?_;rintro e w1 ⟨rfl,rfl⟩;have hlt0:=(zsO.1 hbx).1;clear Hru;go_wp2_with fail;refine(copy_n FZ FO (fsF G q) W0 (uh Hfs)).mono ?_;rintro e w2 ⟨Y,YO,rfl,hb2,hsY,hYO⟩;have Hb2:=zaa ((uh Hb0).trans (zab hb2 hW0));have r0:=zac ((hb2.block _ (zsO.1 hbr).1).trans hbr) 0 rfl;have r1:=zac ((hb2.block _ (zsO.1 hbr).1).trans hbr) 1 rfl;have hbx2:=(hb2.block _ hlt0).trans hbx;have Hz2:=zaa (zbw (uh Hzs) hb2);have HsY:=zaa hsY;have hw2:=hb2.size;have HYO:=zaa hYO;clear hb2 hsY Hzs hbx hbr c0 c1 c2 n0' f0';go_wp2_with fail;refine(zmK Y Z YO O (fsF G q) (zf7 G row) w2 (uh HsY) (uh Hz2) (λk hk hy=>by have h1:=uh HzL k hk;have h2:=uh HYO k hy;omega)).mono ?_;rintro e w3 ⟨⟨cnt,rfl⟩,hf3,O2,hs3,hO2⟩;have hne:∀ k,k<W0.heap.size->¬ YO k:=λk hk hy=>by have:=uh HYO k hy;omega
    have hb3:Below W0.heap.size w2 w3:=zau hf3 hw2 (λk hk=>uh HYO k hk);have hbx3:=(hb3.block _ hlt0).trans hbx2;have y1:=(hb3.cell (p:=⟨w.heap.size,1,none⟩) (by show w.heap.size<_;omega)).trans r1;have hO3:∀ k,O2 k->W0.heap.size<=k:=λk hk=>(hO2 k hk).elim (λh=>uh HYO k h) (λh=>by omega);obtain⟨WF,hWF,t0,t1,hbF,hfF⟩:=zc6 (P:=.pointer (some ⟨Y,0,none⟩)) (E:=.bool e0) hbx3 ((uh Hb2).trans (zab hb3 hW0)) (by omega);have hsF:SetN WF Y O2 (orF (fsF G q) (zf7 G row)):=zaz hs3 hfF (λk hk e=>by have:=hO3 k hk;omega);have Hfin:=zaa (And.intro hbF (And.intro hsF (λk (hk:O2 k)=>show R k\/w.heap.size<=k from .inr (by have:=hO3 k hk;omega))));have u0:=zac hbx3 0 rfl;have u1:=zac hbx3 1 rfl;have z0:=Wk.frozen_block hbx3 0;have z1:=Wk.frozen_block hbx3 1;clear hbF hsF hfF hs3 hO2 hO3 hb3 hbx3 hbx2 hf3 hne r0 r1;go_wp2_with fail;rw[<- hWF];refine bodyPost_ret (v:=.agg #[.pointer (some ⟨Y,0,none⟩),.bool e0]) ?zz8 rfl ⟨_,O2,rfl,uh Hfin⟩
    case zz8=>simp[results,Tryz.results201,go_sem,t0,t1]
open Go.Lib
abbrev Sp:=Int × Int
def sp0:Sp:=(0,0)
def spt(x:It):Sp:=(x.1,x.2.1)
def cuS(l:List Sp):Nat->List Sp
 | 0=>[]
 | m+1=>cuS l m ++ (if m=0\/l.getD m sp0≠l.getD (m - 1) sp0 then[l.getD m sp0] else[])
def zcI(l:List It):List Sp:=cuS (l.map spt) (l.map spt).length
def za9(l:List Sp):List Value:=l.flatMap λx=>[.int .i64 x.1,.int .i64 x.2]
theorem zcw(x:Sp)(l:List Sp):za9 (x::l)=.int .i64 x.1::.int .i64 x.2::za9 l:=rfl
theorem zf4(l m:List Sp):za9 (l ++ m)=za9 l ++ za9 m:=List.flatMap_append
theorem zhb(l:List Sp):(za9 l).length=l.length * 2:=by
 induction l with
 | nil=>rfl
 | cons x l ih=>rw[zcw];simp[ih];omega
theorem zh9(l:List Sp):∀ k,(za9 l).take (k * 2)=za9 (l.take k):=by
 induction l with
 | nil=>intro k;simp[za9]
 | cons b l ih =>
   intro k
   cases k with
   | zero=>rfl
   | succ k=>rw[show (k+1) * 2=k * 2+1+1 by omega,zcw,List.take_succ_cons,List.take_succ_cons,ih,List.take_succ_cons,zcw]
theorem zn4(l:List Sp):∀ k,(za9 l).drop (k * 2)=za9 (l.drop k):=by
 induction l with
 | nil=>intro k;simp[za9]
 | cons b l ih =>
   intro k
   cases k with
   | zero=>rfl
   | succ k=>rw[show (k+1) * 2=k * 2+1+1 by omega,zcw,List.drop_succ_cons,List.drop_succ_cons,ih,List.drop_succ_cons]
theorem zmS(l:List Sp)(j:Nat)(hj:j<l.length):(za9 l)[j * 2]? = some (.int .i64 (l.getD j sp0).1)/\(za9 l)[j * 2+1]? = some (.int .i64 (l.getD j sp0).2):=by
 induction l generalizing j with
 | nil=>simp at hj
 | cons x l ih =>
   rw[zcw]
   cases j with
   | zero=>simp
   | succ j =>
     have:=ih j (by simpa using hj);rw[show (j+1) * 2=j * 2+1+1 by omega];simpa using this
theorem zqy(l:List Sp):∀ u ∈ za9 l,u.oneCell'=true:=by
 intro u hu;simp only[za9,List.mem_flatMap] at hu;obtain⟨x,_,hx⟩:=hu;simp at hx;rcases hx with rfl | rfl <;> rfl
theorem zwh:(Tryz.prog.info? 121).map (λi=>(i.zero,i.size,i.bytes))=some (some (.agg #[.int .i64 0,.int .i64 0]),2,16):=by kernel_rfl
theorem zst(L:List Value)(i:Nat)(a b:Value)(h:i+2<=L.length):((L.toArray.setIfInBounds i a).setIfInBounds (i+1) b)=(Wk.over L i [a,b]).toArray:=by
 simp only[List.setIfInBounds_toArray]
 congr 1
 unfold Wk.over;apply List.ext_getElem?;intro j;simp only[List.getElem?_set,List.length_set];rcases Nat.lt_or_ge j i with h1 | h1
 ·rw[if_neg (by omega),if_neg (by omega),List.getElem?_append_left (by simp;omega),List.getElem?_take,if_pos h1]
 ·rw[List.getElem?_append_right (by simp;omega)];have e:(L.take i).length=i:=by simp;omega
  rw[e];rcases Nat.lt_or_ge j (i+2) with h2 | h2
  ·obtain rfl | rfl:j=i\/j=i+1:=by omega
   ·rw[if_neg (by omega),if_pos rfl,if_pos (by omega)];simp
   ·rw[if_pos rfl,if_pos (by omega),show i+1 - i=1 by omega];simp
  ·rw[if_neg (by omega),if_neg (by omega),List.getElem?_append_right (by simp;omega),List.getElem?_drop]
   congr 1
   simp only[List.length_cons,List.length_nil];omega
def zhF(B:Nat)(w:World)(a:Option Addr)(l:List Sp):Prop :=
 l=[]\/∃ b off,a=some ⟨b,off,none⟩/\b<B/\∀ j,j<l.length->w.cell? ⟨b,off+j * 2,none⟩=some (.int .i64 (l.getD j sp0).1)/\w.cell? ⟨b,off+j * 2+1,none⟩=some (.int .i64 (l.getD j sp0).2)
theorem zfE{l:List Sp}(hb:Below B w w')(h:zhF B w a l):zhF B w' a l:=by
 rcases h with rfl | ⟨b,off,rfl,hlt,hc⟩
 ·exact .inl rfl
 ·exact .inr ⟨b,off,rfl,hlt,λj hj=>⟨(hb.cell hlt).trans (hc j hj).1,(hb.cell hlt).trans (hc j hj).2⟩⟩
theorem zl9{l:List Sp}(h:zhF B w a l)(hk:k<l.length):∃ b off,a=some ⟨b,off,none⟩/\b<B/\w.cell? ⟨b,off+k * 2,none⟩=some (.int .i64 (l.getD k sp0).1)/\w.cell? ⟨b,off+k * 2+1,none⟩=some (.int .i64 (l.getD k sp0).2):=by
 rcases h with rfl | ⟨b,off,h1,h2,h3⟩
 ·simp at hk
 ·exact⟨b,off,h1,h2,h3 k hk⟩
theorem zfD{B':Nat}{l:List Sp}(h:zhF B w a l)(hB:B<=B'):zhF B' w a l:=by
 rcases h with h | ⟨b,off,h1,h2,h3⟩
 ·exact .inl h
 ·exact .inr ⟨b,off,h1,zsJ h2 hB,h3⟩
theorem zjJ{l:List Sp}(h:w.ownsRow B 121 2 v l.length (za9 l)):∃ a c,v=.slice a l.length c/\zhF w.heap.size w a l:=by
 rcases h.2 with ⟨rfl,h0⟩ | ⟨g,cap,cur,rfl,_⟩
 ·have:l=[]:=List.length_eq_zero_iff.1 h0;exact⟨none,0,by rw[this];rfl,.inl this⟩
 ·refine⟨some ⟨g,0,none⟩,cap,rfl,.inr ⟨g,0,rfl,(h.lt g rfl).2,λj hj=>?_⟩⟩;obtain⟨f0,f1⟩:=zmS l j hj;rw[Nat.zero_add];have hc:∀ (i:Nat) (u:Value),(za9 l)[i]? = some u->w.cell? ⟨g,i,none⟩=some u:=λi u hu=>by
   have:=h.cells (g:=g) rfl i u hu
   rwa [Go.WideShapes.add_plain,Nat.zero_add] at this
  exact⟨hc _ _ f0,hc _ _ f1⟩
def zrJ(w:World)(g cap:Nat)(l:List Sp):Prop:=∃ cu:List Value,w.heap[g]? = some (.cells cu.toArray 121 (0,0))/\cu.length=cap * 2/\l.length<=cap/\cap<=maxLen/\cu.take (l.length * 2)=za9 l
theorem zua{l:List Sp}(h:w.ownsRow B 121 2 v l.length (za9 l))(hn:l≠[]):∃ g cap,v=.slice (some ⟨g,0,none⟩) l.length cap/\B<=g/\zrJ w g cap l:=by
 rcases h.2 with ⟨rfl,h0⟩ | ⟨g,cap,cur,rfl,h2,h3,h4,h5,h6,h7⟩
 ·exact absurd (List.length_eq_zero_iff.1 h0) hn
 ·exact⟨g,cap,rfl,h2,cur.toList,h3,by simpa using h6,h4,h5,h7⟩
theorem zss{l:List Sp}(h:zrJ w g cap l)(hg:B<=g):w.ownsRow B 121 2 (.slice (some ⟨g,0,none⟩) l.length cap) l.length (za9 l):=by
 obtain⟨cu,h1,h2,h3,h4,h5⟩:=h;exact⟨by rw[zhb],.inr ⟨g,cap,cu.toArray,rfl,hg,h1,h3,h4,by simpa using h2,by simpa using h5⟩⟩
theorem zsq:w.ownsRow B 121 2 (.slice none 0 0) ([]:List Sp).length (za9 []):=⟨rfl,.inl ⟨rfl,rfl⟩⟩
theorem zrd{l:List Sp}(h:zrJ w g cap l)(hi:(za9 l)[i]? = some v):w.cell? ⟨g,i,none⟩=some v:=by
 obtain⟨cu,h1,h2,h3,h4,h5⟩:=h;refine Wk.cell_block h1 _ _ ?_;rw[<- h5,List.getElem?_take] at hi
 split at hi
 ·simpa using hi
 ·cases hi
theorem zdf{l:List Sp}(h:zrJ w g cap l)(hj:j<l.length):w.cell? ⟨g,j * 2,none⟩=some (.int .i64 (l.getD j sp0).1)/\w.cell? ⟨g,j * 2+1,none⟩=some (.int .i64 (l.getD j sp0).2):=by
 obtain⟨f0,f1⟩:=zmS l j hj;exact⟨zrd h f0,zrd h f1⟩
theorem zqN{l:List Sp}(h:m=0\/l.getD m sp0≠l.getD (m - 1) sp0):cuS l (m+1)=cuS l m ++ [l.getD m sp0]:=by
 show cuS l m ++ _=_;rw[if_pos h]
theorem zuK{l:List Sp}(h0:0<m)(h:l.getD m sp0=l.getD (m - 1) sp0):cuS l (m+1)=cuS l m:=by
 show cuS l m ++ _=_;rw[if_neg (by rintro(h1 | h1);omega;exact h1 h),List.append_nil]
theorem zi9{l:List Sp}:∀ {m:Nat},(∀ j,0<j->j<m->l.getD j sp0≠l.getD (j - 1) sp0)->m<=l.length->cuS l m=l.take m
 | 0,_,_=>rfl
 | m+1,h,hm=>by
   rw[zqN (by by_cases e:m=0;exact .inl e;exact .inr (h m (by omega) (by omega))),zi9 (λj h0 h1=>h j h0 (by omega)) (by omega),zsU,zsF (by omega)];simp[List.getD_eq_getElem?_getD,List.getElem?_eq_getElem (show m<l.length by omega)]
def zxJ(l M:List Sp)(m kk:Nat):Prop:=M.length=l.length/\M.take kk=cuS l m/\kk<m/\m<=l.length/\∀ j,m<=j+1->j<l.length->M.getD j sp0=l.getD j sp0
theorem zog{l:List Sp}(h0:0<k)(hk:k<l.length)(h:∀ j,0<j->j<k->l.getD j sp0≠l.getD (j - 1) sp0)(he:l.getD k sp0=l.getD (k - 1) sp0):zxJ l l (k+1) k :=
 ⟨rfl,by rw[zuK h0 he,zi9 h (by omega)],by omega,by omega,λ_ _ _=>rfl⟩
theorem zwJ{l M:List Sp}(h:zxJ l M m kk)(hm:m<l.length)(he:l.getD m sp0=l.getD (m - 1) sp0):zxJ l M (m+1) kk :=
 ⟨h.1,by rw[zuK (by have:=h.2.2.1;omega) he];exact h.2.1,by have:=h.2.2.1;omega,by omega,λj hj=>h.2.2.2.2 j (by omega)⟩
theorem ztW{l M:List Sp}(h:zxJ l M m kk)(hm:m<l.length)(he:l.getD m sp0≠l.getD (m - 1) sp0):zxJ l (M.set kk (l.getD m sp0)) (m+1) (kk+1):=by
 obtain⟨h1,h2,h3,h4,h5⟩:=h;refine⟨by simpa using h1,?_,by omega,by omega,λj hj hl=>?_⟩
 ·rw[zqN (.inr he),<- h2,zsU,List.take_set_of_le (by omega),List.getElem?_set_self (by omega)];rfl
 ·rw[<- h5 j (by omega) hl,zsE,zsE (l:=M),List.getElem?_set_ne (by omega)]
theorem zvk(y x:Sp)(w:World):(binOp .eql 121 (.agg #[.int .i64 y.1,.int .i64 y.2]) (.agg #[.int .i64 x.1,.int .i64 x.2])).run Tryz.prog w=.ok (.bool (decide (y=x))) w:=by
 rw[run_eql_struct,run_equalIn_agg w 9999 121 _ _ (by kernel_rfl) (by kernel_rfl)];unfold Program.fieldsOf;rw[Tryz.underlying121];simp[Op.eqFields,part,go_sem,Tryz.underlying3];obtain⟨y0,y1⟩:=y;obtain⟨z0,z1⟩:=x;simp only[Prod.mk.injEq];by_cases h0:y0=z0
 ·by_cases h1:y1=z1
  ·simp[h0,h1]
  ·simp[h0,h1]
 ·simp[h0]
theorem zpa(y x:Sp)(w:World):(binOp .neq 121 (.agg #[.int .i64 y.1,.int .i64 y.2]) (.agg #[.int .i64 x.1,.int .i64 x.2])).run Tryz.prog w=.ok (.bool (!decide (y=x))) w:=by
 rw[run_neq_struct,run_equalIn_agg w 9999 121 _ _ (by kernel_rfl) (by kernel_rfl)];unfold Program.fieldsOf;rw[Tryz.underlying121];simp[Op.eqFields,part,go_sem,Tryz.underlying3];obtain⟨y0,y1⟩:=y;obtain⟨z0,z1⟩:=x;simp only[Prod.mk.injEq];by_cases h0:y0=z0
 ·by_cases h1:y1=z1
  ·simp[h0,h1]
  ·simp[h0,h1]
 ·simp[h0]
theorem zt9{l:List Sp}(h:zrJ w g cap l)(hi:i<l.length)(x:Sp):zrJ ((w.setCell ⟨g,i * 2,none⟩ (.int .i64 x.1)).setCell ⟨g,i * 2+1,none⟩ (.int .i64 x.2)) g cap (l.set i x):=by
 obtain⟨cu,h1,h2,h3,h4,h5⟩:=h;have hn:(za9 l).length=l.length * 2:=zhb l;refine⟨Wk.over cu (i * 2) [.int .i64 x.1,.int .i64 x.2],?_,?_,by simpa using h3,h4,?_⟩
 ·rw[Wk.block_set (Wk.block_set h1 _) _,zst _ _ _ _ (by omega)]
 ·rw[Wk.over_length _ _ _ (by simp;omega),h2]
 ·have e:za9 (l.set i x)=(za9 l).take (i * 2) ++ ([.int .i64 x.1,.int .i64 x.2] ++ (za9 l).drop ((i+1) * 2)):=by
   rw[List.set_eq_take_append_cons_drop,if_pos hi,zf4,zcw,zh9,zn4];rfl
  have hle:i * 2+2<=l.length * 2:=by omega
  rw[e,List.length_set,<- h5,List.take_take,Nat.min_eq_left (by omega),List.drop_take];unfold Wk.over;rw[List.take_append,List.take_append,List.take_of_length_le (l:=cu.take (i * 2)) (by simp;omega),zsV,Nat.min_eq_left (by omega),List.take_of_length_le (l:=[Value.int .i64 x.1,_]) (by simp;omega)];simp only[List.length_cons,List.length_nil];rw[show l.length * 2 - i * 2 - (0+1+1)=l.length * 2 - (i+1) * 2 by omega,show i * 2+(0+1+1)=(i+1) * 2 by omega]
theorem zqQ(g cap:Nat)(l:List Sp)(w:World)(hb:zrJ w g cap l)(hl:l.length<=1099511627776) :
 Calls Tryz.prog 141 #[.slice (some ⟨g,0,none⟩) l.length cap] w λe w'=>e=.returned (.slice (some ⟨g,0,none⟩) (cuS l l.length).length cap)/\zrJ w' g cap (cuS l l.length)/\Fr (· = g) w w':=by
 have hlc:l.length<=cap:=by obtain⟨_,_,_,h,_⟩:=hb;exact h
 by_cases h2:l.length<2
 ·have e:cuS l l.length=l:=by
   rw[zi9 (λj h0 h1=>by omega) (zsG _),zsN]
  rw[e];have h2':(l.length:Int)<2:=by omega
  have Hb:=zaa hb;clear hb e;go_enter Tryz.func141,Tryz.ntmps141;go_wp2;go_ret;exact⟨rfl,uh Hb,zax _ _⟩
 · have h2' : ¬ (l.length : Int) < 2 := by omega
   have Hb:=zaa hb;clear hb;go_enter Tryz.func141,Tryz.ntmps141;go_wp2
   go_loopw [3] (λu wr=>∃ k:Nat,u=.int .i64 k/\1<=k/\k<=l.length/\(∀ j,0<j->j<k->l.getD j sp0≠l.getD (j - 1) sp0)/\zrJ wr g cap l/\Fr (· = g) w wr) (λu _=>l.length - (intOf u).toNat)
   case atStart=>exact⟨1,rfl,zsG _,by omega,λj h0 h1=>by omega,uh Hb,zax _ _⟩
   case round =>
     obtain⟨k,rfl,h1k,hkl,hne,hbk,hfr⟩:=hrel;have Hbk:=zaa hbk;have Hfr:=zaa hfr;have Hne:=zaa hne;clear hbk hfr hne Hb;by_cases hlt:k<l.length
     · have hlt':(k:Int)<(l.length:Int):=by omega
       obtain⟨p,rfl⟩:∃ p,k=p+1:=⟨k - 1,by omega⟩;have hw:IntKind.i64.wrap (((p+1:Nat):Int) - 1)=(p:Int):=by rw[IntKind.wrap_i64];omega
       have hpl:(p:Int)<(l.length:Int):=by omega
       obtain⟨x0,x1⟩:=zdf (uh Hbk) hlt;obtain⟨y0,y1⟩:=zdf (uh Hbk) (show p<l.length by omega);have heq:=zvk (l.getD (p+1) sp0) (l.getD p sp0);by_cases he:l.getD (p+1) sp0=l.getD p sp0
       · have hd:decide (l.getD (p+1) sp0=l.getD p sp0)=true:=decide_eq_true he;rw[hd] at heq;have Hst:=zaa (zog (by omega) hlt (uh Hne) he);clear hd he Hne;generalize l.getD (p+1) sp0=X at *;generalize l.getD p sp0=Y at *;have hcap:((p+1:Nat):Int)<=(cap:Int):=by omega
         have hcap2:((p:Int)+1)<=(l.length:Int):=by omega
         go_wp2_with fail;go_quiet (fail);go_wp2_with fail;clear x0 x1 y0 y1 heq
         go_loopw [3,5] (λu v wr=>∃ (kk k2:Nat) (M:List Sp),u=.int .i64 kk/\v=.int .i64 k2/\1<=k2/\zxJ l M (p+1+k2) kk/\zrJ wr g cap M/\Fr (· = g) w wr) (λ_ v _=>l.length - (intOf v).toNat)
         case atStart=>exact⟨p+1,1,l,by go_num,rfl,zsG _,uh Hst,uh Hbk,uh Hfr⟩
         case round =>
           obtain⟨kk,k2,M,rfl,rfl,h1k2,hca,hbk,hfr⟩:=hrel;have Hca:=zaa hca;have Hbk2:=zaa hbk;have Hfr2:=zaa hfr;have hkm:=hca.2.2.1;have hml:=hca.2.2.2.1;have hMl:=hca.1;clear hca hbk hfr Hst Hbk Hfr;by_cases hlt2:p+1+k2<l.length
           · obtain⟨q,rfl⟩:∃ q,k2=q+1:=⟨k2 - 1,by omega⟩;have hb1:((q+1:Nat):Int)<((l.length - (p+1):Nat):Int):=by omega
             have hb2:(q:Int)<((l.length - (p+1):Nat):Int):=by omega
             have hw2:IntKind.i64.wrap (((q+1:Nat):Int) - 1)=(q:Int):=by rw[IntKind.wrap_i64];omega
             obtain⟨x0,x1⟩:=zdf (uh Hbk2) (j:=p+1+(q+1)) (by omega);obtain⟨y0,y1⟩:=zdf (uh Hbk2) (j:=p+1+q) (by omega);rw[(uh Hca).2.2.2.2 _ (by omega) hlt2] at x0 x1;rw[(uh Hca).2.2.2.2 _ (by omega) (by omega)] at y0 y1;rw[show (p+1+(q+1)) * 2=(p+1) * 2+(q+1) * 2 by omega] at x0 x1;rw[show (p+1+q) * 2=(p+1) * 2+q * 2 by omega] at y0 y1;have heq:=zpa (l.getD (p+1+(q+1)) sp0) (l.getD (p+1+q) sp0);by_cases he:l.getD (p+1+(q+1)) sp0=l.getD (p+1+q) sp0
             · have hd:decide (l.getD (p+1+(q+1)) sp0=l.getD (p+1+q) sp0)=true:=decide_eq_true he;rw[hd] at heq;have Hn:=zaa (zwJ (uh Hca) hlt2 he);clear hd he Hca;generalize l.getD (p+1+(q+1)) sp0=X at *;generalize l.getD (p+1+q) sp0=Y at *;go_wp2_with fail;go_quiet (fail);go_wp2;go_roundw
               case rel=>exact⟨kk,q+1+1,M,rfl,by go_num,by omega,uh Hn,uh Hbk2,uh Hfr2⟩
               case measure=>simp[intOf];omega
             · have hd:decide (l.getD (p+1+(q+1)) sp0=l.getD (p+1+q) sp0)=false:=decide_eq_false he;rw[hd] at heq;have Hn:=zaa (ztW (uh Hca) hlt2 he);have hkI:(kk:Int)<(l.length:Int):=by omega
               have hkw:IntKind.i64.wrap ((kk:Int)+1)=((kk+1:Nat):Int):=by rw[IntKind.wrap_i64];omega
               obtain⟨q0,q1⟩:=zdf (uh Hbk2) (j:=kk) (by omega);obtain⟨z0,z1⟩:wr.frozen? ⟨g,kk * 2,none⟩=false/\wr.frozen? ⟨g,kk * 2+1,none⟩=false:=by
                 obtain⟨cu,hg4,_⟩:=uh Hbk2;exact⟨Wk.frozen_block hg4 _,Wk.frozen_block hg4 _⟩
               have hkl2:kk<l.length:=by omega
               clear hd he Hca;generalize l.getD (p+1+(q+1)) sp0=X at *;generalize l.getD (p+1+q) sp0=Y at *;have Hb3:=zaa (zt9 (uh Hbk2) (i:=kk) (by omega) X);have Hf3:=zaa (zaD (zaD (uh Hfr2) (p:=⟨g,kk * 2,none⟩) rfl (.int .i64 X.1)) (p:=⟨g,kk * 2+1,none⟩) rfl (.int .i64 X.2));go_wp2_with fail;go_quiet (fail);go_wp2;go_roundw
               case rel=>exact⟨kk+1,q+1+1,M.set kk X,by go_num,by go_num,by omega,uh Hn,uh Hb3,uh Hf3⟩
               case measure=>simp[intOf];omega
           · obtain rfl:k2=l.length - (p+1):=by omega
             have hm:p+1+(l.length - (p+1))=l.length:=by omega
             rw[hm] at Hca hkm;have hkl2:(kk:Int)<=(l.length:Int):=by omega
             have hkl3:kk<=l.length:=by omega
             have hkc:(kk:Int)<=(cap:Int):=by omega
             have hkc3:kk<=cap:=by omega
             have hlen:(cuS l l.length).length=kk:=by rw[<- (uh Hca).2.1,zsV];omega
             obtain⟨cu,hg4,hcl,hMc,hmx,htk⟩:=uh Hbk2
             have hcle:∀ ty,(Builtin.clear_ #[157] ty #[.slice (some ⟨g,kk * 2,none⟩) (l.length - kk) (cap - kk)]).run Tryz.prog wr=.ok (.tuple #[]) (wr.setRow g (Wk.over cu (kk * 2) (Builtin.zeroCells (Value.agg #[.int .i64 0,.int .i64 0]).cells (l.length - kk)).toList).toArray):=λty =>
               Wk.run_clear_over wr 157 121 ty (.agg #[.int .i64 0,.int .i64 0]) Tryz.underlying157 (λw=>by kernel_rfl) g (kk * 2) (l.length - kk) (cap - kk) (by omega) cu 121 hg4 (by rw[Wk.zeros_length,hcl];simp[Value.cells];omega) (by
                 intro v hv;simp only[Builtin.zeroCells,Value.cells,Array.toList_map,List.mem_map] at hv;obtain⟨i,_,rfl⟩:=hv;have h3:i % 2=0\/i % 2=1:=by omega
                 rcases h3 with h3 | h3 <;> simp[h3,Value.oneCell'])
             have Hfin:Hid (∀ W,W=wr.setRow g (Wk.over cu (kk * 2) (Builtin.zeroCells (Value.agg #[.int .i64 0,.int .i64 0]).cells (l.length - kk)).toList).toArray->zrJ W g cap (cuS l l.length)/\Fr (· = g) w W):=zaa (λW hW=>by
               have hfit:kk * 2+(Builtin.zeroCells (Value.agg #[.int .i64 0,.int .i64 0]).cells (l.length - kk)).toList.length<=cu.length:=by rw[Wk.zeros_length,hcl];simp[Value.cells];omega
               refine⟨⟨_,by rw[hW];exact setRow_heap wr g _ _ 121 _ hg4,by rw[Wk.over_length _ _ _ hfit,hcl],by omega,hmx,?_⟩,?_⟩
               · rw[hlen,<- (uh Hca).2.1,<- zh9,<- htk,List.take_take,Nat.min_eq_left (by omega)];unfold Wk.over;rw[List.take_append_of_le_length (by simp;omega),List.take_take,Nat.min_self]
               · have hf:=uh Hfr2;rw[hW]
                 exact⟨zsy hf.1 (by simp[World.setRow]),λk hk ho=>(setRow_other _ g k _ ho).trans (hf.2.1 k hk ho),hf.2.2⟩)
             have Hlen:=zaa hlen;clear hg4 hcl hmx htk hlen Hca;generalize wr.setRow g (Wk.over cu (kk * 2) (Builtin.zeroCells (Value.agg #[.int .i64 0,.int .i64 0]).cells (l.length - kk)).toList).toArray=W4 at *;obtain⟨hb4,hf4⟩:=uh Hfin _ rfl;have Hb4:=zaa hb4;have Hf4:=zaa hf4;clear hb4 hf4 Hfin Hbk2 Hfr2;go_wp2_with (at_builtin;refine Wk.wpList_clear_known _ rfl _ 157 rfl _ rfl (hcle _) ?_);go_wp2;go_ret;exact⟨by rw[uh Hlen];rfl,uh Hb4,uh Hf4⟩
       · have hd:decide (l.getD (p+1) sp0=l.getD p sp0)=false:=decide_eq_false he;rw[hd] at heq;have Hn2:Hid (∀ j,0<j->j<p+1+1->l.getD j sp0≠l.getD (j - 1) sp0):=zaa λj h0 hj=>by
           by_cases e:j=p+1
           · rw[e];exact he
           · exact uh Hne j h0 (by omega)
         clear hd he Hne;generalize l.getD (p+1) sp0=X at *;generalize l.getD p sp0=Y at *;go_wp2_with fail;go_quiet (fail);go_wp2;go_roundw
         case rel=>exact⟨p+1+1,by go_num,by omega,by omega,uh Hn2,uh Hbk,uh Hfr⟩
         case measure=>simp[intOf];omega
     · have hlt':¬ (k:Int)<(l.length:Int):=by omega
       obtain rfl:k=l.length:=by omega
       have e:cuS l l.length=l:=by
         rw[zi9 (uh Hne) (zsG _),zsN]
       have He:=zaa e;clear e;go_wp2;go_ret;exact⟨by rw[uh He];rfl,by rw[uh He];exact uh Hbk,uh Hfr⟩
end Go.Proofs.YtieciibnajeibaaGreatDoor

import Derived.Test.YtieciibnajeibaaGreatDoorKE
import Derived.Test.YtieciibnajeibaaGreatDoorJN
import Derived.Test.YtieciibnajeibaaGreatDoorUH
set_option maxHeartbeats 8000000
set_option maxRecDepth 100000
namespace Go.Proofs.YtieciibnajeibaaGreatDoor
open Go.RowKit Go.Shelf Go.Maps
attribute [local go_sem] Oper.semAt_some
def zja(p:Nat)(vs:List Int):List It:=vs.map λy=>((p:Int),0,y)
def zdW(G:Gm)(M:Nat->Nat->Bool)(p:Nat):List Int:=zgs (zay (M (zbP G p)) G.nk)
def ahI(G:Gm)(M:Nat->Nat->Bool)(ps:List Nat):List It:=ps.flatMap λp=>zja p (zdW G M p)
theorem zui(G:Gm)(M:Nat->Nat->Bool)(ps:List Nat)(p:Nat):ahI G M (ps ++ [p])=ahI G M ps ++ zja p (zdW G M p):=by
 unfold ahI;rw[List.flatMap_append];simp
theorem zid(G:Gm)(M:Nat->Nat->Bool)(p:Nat):(zdW G M p).length<=G.nk:=by
 have:=ziR (zay (M (zbP G p)) G.nk) (zay (M (zbP G p)) G.nk).length;unfold zdW zgs;rw[zaR] at this ⊢;exact this
theorem zl1{G:Gm}(hG:GOk G)(M:Nat->Nat->Bool):∀ ps:List Nat,(ahI G M ps).length<=ps.length * 1024
 | []=>by simp[ahI]
 | p::ps=>by
   have ih:=zl1 hG M ps;have h1:=zid G M p;have h2:=hG.k3;have e:ahI G M (p::ps)=zja p (zdW G M p) ++ ahI G M ps:=by unfold ahI;simp
   rw[e,zsI];have h3:(zja p (zdW G M p)).length=(zdW G M p).length:=by unfold zja;simp
   rw[h3,List.length_cons,Nat.add_mul];omega
variable{B:Nat}{G:Gm}{M:Nat->Nat->Bool}{w:World}
theorem zvZ{ps:List Nat}{x:It}:x ∈ ahI G M ps↔∃ p,p ∈ ps/\∃ k:Nat,k<G.nk/\M (zbP G p) k=true/\x=((p:Int),0,(k:Int)):=by
 unfold ahI zja zdW;rw[List.mem_flatMap];constructor
 ·rintro⟨p,hp,hx⟩;obtain⟨y,hy,rfl⟩:=List.mem_map.1 hx;obtain⟨k,rfl,hk,hm⟩:=mem_posL.1 hy;exact⟨p,hp,k,hk,hm,rfl⟩
 ·rintro⟨p,hp,k,hk,hm,rfl⟩;exact⟨p,hp,List.mem_map.2 ⟨(k:Int),mem_posL.2 ⟨k,rfl,hk,hm⟩,rfl⟩⟩
theorem zxl{P:Nat->Bool}(hn:∀ q,P q=false->∀ k,M q k=false){xs:List (PrI G P)}(h:AhS G P xs)(l:List It):zct (l ++ ahI G M (xs.map Subtype.val))=zct (l ++ mkI G M G.nk G.prods.length):=by
 refine znP (λx=>?_);rw[List.mem_append,List.mem_append,zvZ,mem_mkI];constructor
 ·rintro(hx | ⟨p,hp,k,hk,hm,rfl⟩)
  ·exact .inl hx
  ·obtain⟨y,-,rfl⟩:=List.mem_map.1 hp;exact .inr ⟨y.1,k,rfl,y.2.1,hk,hm⟩
 ·rintro(hx | ⟨p,k,rfl,hp,hk,hm⟩)
  ·exact .inl hx
  ·refine .inr ⟨p,h.1 p hp ?_,k,hk,hm,rfl⟩
   cases h9:P (zbP G p) with
   | true=>rfl
   | false=>rw[show (G.prods.getD p pd0).left.toNat=zbP G p from rfl,hn _ h9 k] at hm;cases hm
def WiI(w:World)(l:List It)(acc:List It)(V:World):Prop:=∃ v,Boxed V w.heap.size 27 v/\V.ownsRow w.heap.size 57 3 v (l ++ acc).length (zaF (l ++ acc))/\Below w.heap.size w V
theorem zaU{a:Option Addr}{c:Nat}{l:List It}(h:w.ownsRow B 57 3 (.slice a l.length c) l.length (zaF l)):zcE w.heap.size w a l:=by
 by_cases e:l=[]
 ·exact .inl e
 ·obtain⟨g,cap,e2,-,hb⟩:=zng h e;obtain rfl:a=some ⟨g,0,none⟩:=by simpa using (Value.slice.inj e2).1
  exact zub hb (by simp) (zsG _)
theorem znN{B1 B2:Nat}{e1 e2:TypeId}{s1 s2:Nat}{v1 v2:Value}{k1 k2:Nat}{xs1 xs2:List Value}(h1:w.ownsRow B1 e1 s1 v1 k1 xs1)(h2:w.ownsRow B2 e2 s2 v2 k2 xs2)(hne:e1≠e2):v1=.slice none 0 0\/v1.ownBlock≠v2.ownBlock:=by
 rcases h1.2 with ⟨rfl,_⟩ | ⟨g,cap,cur,rfl,_,hg,_⟩
 ·exact .inl rfl
 ·refine .inr (λe=>?_);rcases h2.2 with ⟨rfl,_⟩ | ⟨g',cap',cur',rfl,_,hg',_⟩
  ·simp[Value.ownBlock] at e
  ·obtain rfl:g=g':=by simpa [Value.ownBlock] using e
   rw[hg] at hg'
   cases hg'
   exact hne rfl
theorem zdb{e t:TypeId}{s:Nat}{v:Value}{k:Nat}{xs:List Value}(h:w.ownsRow B e s v k xs){b:Nat}{cs:Array Value}{f:Nat × Nat}(hb:w.heap[b]? = some (.cells cs t f))(hne:t≠e):some b≠v.ownBlock:=by
 rcases h.2 with ⟨rfl,_⟩ | ⟨g,cap,cur,rfl,_,hg,_⟩
 ·simp[Value.ownBlock]
 ·intro e';obtain rfl:b=g:=by simpa [Value.ownBlock] using e'
  rw[hg] at hb
  cases hb
  exact hne rfl
theorem cells3(w:World)(a b c:Value)(t:TypeId):∀ j u,([a,b,c]:List Value)[j]? = some u->(w.alloc (.cells #[a,b,c] t)).cell? ((⟨w.heap.size,0,none⟩:Addr).add j)=some u:=λj u hj=>by
 have hb:=zsH w (.cells #[a,b,c] t);have e:(⟨w.heap.size,0,none⟩:Addr).add j=⟨w.heap.size,j,none⟩:=by unfold Addr.add;split <;> simp_all
 rw[e];refine zac hb j ?_;rw[<- hj];simp
theorem zks{V W:World}(h:Below V.heap.size V W):KeepsOthers V W:=⟨h.size,λk _ hk _=>(h.block k (zsO.1 hk).1).trans hk⟩
theorem zqk{p:Nat}{vs:List Int}{j:Nat}(h:j<vs.length):zja p (vs.take (j+1))=zja p (vs.take j) ++ [((p:Int),0,vs.getD j 0)]:=by
 unfold zja;rw[zsU,zsF h,zsE,zsF h,List.map_append];rfl
theorem zoE(R R0:Nat->Prop)(B cb gb tb sb mb lb:Nat)(G:Gm)(hG:GOk G)(P:Nat->Bool)(A:Nat->Nat)(OO:Nat->Nat->Prop)(LO:Nat->Prop)(n:Nat)(M:Nat->Nat->Bool)(H:Nat->Bool)(cnt:Nat)(w:World)
 (h:ClS R B cb gb tb sb mb lb G P A OO LO n M H cnt w) (hc0:ClB R0 B w cb gb tb G) (hR0:∀ k,R0 k->k<w.heap.size) (htab:Tb w.heap.size w) (hM:∀ q k,M q k=true->k<G.nk) (ia:Option Addr) (ic:Nat) (l:List It) (hl:l.length<=1000000000) (hi:zcE w.heap.size w ia l) :
 Calls Tryz.prog 69 #[.pointer (some ⟨sb,0,none⟩),.slice ia l.length ic] w λe w'=>∃ a' c',e=.returned (.slice a' (zct (l ++ mkI G M G.nk G.prods.length)).length c')/\w'.ownsRow w.heap.size 57 3 (.slice a' (zct (l ++ mkI G M G.nk G.prods.length)).length c') (zct (l ++ mkI G M G.nk G.prods.length)).length (zaF (zct (l ++ mkI G M G.nk G.prods.length)))/\Below w.heap.size w w':=by
 obtain⟨i0,hi0,hz0,hz1,hz2⟩:=zak zmT;obtain⟨na,nc,fa,fc,oa,oc,rc,hcbx,hR0c,-,-,-,-,-,hOw⟩:=hc0;have s0:=zac h.box 0 rfl;have s1:=zac h.box 1 rfl;have c3:=zac hcbx 3 rfl;have hsl:=(zsO.1 h.box).1
 have Ht:=zaa (λ(W:World) (hb:Below w.heap.size w W)=>zl0 Fence.wide 19 trivial rfl (by omega) G hG P A h.pn sb cb mb n oa oc R0 (λk=>k=sb\/R0 k) W ((hb.cell (p:=⟨sb,0,none⟩) hsl).trans s0) ((hb.cell (p:=⟨sb,1,none⟩) hsl).trans s1) ((hb.cell (p:=⟨cb,3,none⟩) (hR0 _ hR0c)).trans c3)
  (λq hq=>by
   obtain⟨b,off,a,c,e,hb1,hc1,hr1⟩:=hOw q hq;refine⟨b,off,a,c,e,hb1,(hb.cell (p:=⟨b,off+q,none⟩) (hR0 _ hb1)).trans hc1,?_⟩;rcases hr1 with hr | ⟨b',off',r1,r2,r3⟩
   ·exact .inl hr
   ·exact .inr ⟨b',off',r1,r2,λj hj=>(hb.cell (p:=⟨b',off'+j,none⟩) (hR0 _ r2)).trans (r3 j hj)⟩)
  (zdS h.mp (hb.block mb (zda h.mp))) (.inl rfl) (.inr hR0c) (λk hk=>.inr hk) (λk hk=>by
   have:=hb.size;rcases hk with rfl | hk
   ·omega
   ·have:=hR0 k hk;omega))
 have Hh:=zaa h;have Htab:=zaa htab;have HM:=zaa hM;have Hi:=zaa hi;clear h htab hM hi hcbx hOw s0 s1 c3 hsl hR0c;have hmf:∀ (fn:Fn) (first cap:Array Value) (w:World),(Instr.makeFunc fn first cap).run Tryz.prog w=.ok (.func fn first cap) w:=λ_ _ _ _=>rfl;obtain⟨W0,hW0⟩:∃ W0,W0=w.alloc (.cells #[.slice ia l.length ic] 27):=⟨_,rfl⟩;have hb0:Below w.heap.size w W0:=by rw[hW0];exact(zsY _ _).alloc (zsG _) _
 have hx0:Boxed W0 w.heap.size 27 (.slice ia l.length ic):=by rw[hW0];exact Boxed.new w 27 _
 have hs0:W0.heap.size=w.heap.size+1:=by rw[hW0];simp
 have x0:=hx0.cell;have HC:=zaa (zit W0.heap.size ia ic l (by omega) W0 (zsG _) (zaD (zaw hb0 (uh Hi)) hb0.size));refine(callsIn_wide (n:=20)).1 ?_;refine callsIn_of_wp_marks Tryz.func69 rfl trivial ?_ rfl;simp only[Tryz.ntmps69,List.size_toArray,List.length_cons,List.length_nil,Nat.reduceAdd,Nat.reduceSub,Array.replicate_succ,Array.replicate_zero,List.push_toArray,List.append_toArray,List.nil_append,List.cons_append]
 gi_wp2_with fail
 rw[<- hW0];refine⟨trivial,(callsIn_wide.2 (uh HC)).mono ?_⟩;rintro e1 W1 ⟨v,rfl,hown1,hb1⟩;obtain⟨av,cv,rfl⟩:=zaf hown1;have hx1:Boxed W1 w.heap.size 27 (.slice ia l.length ic):=(hb1.block _ (by omega)).trans hx0;have x1:=hx1.cell;have z1:=hx1.frozen;have hWi:WiI w l [] (W1.setCell ⟨w.heap.size,0,none⟩ (.slice av l.length cv)):=by
  refine⟨_,hx1.set _,?_,(hb0.trans (zab hb1 hb0.size)).setCell (p:=⟨w.heap.size,0,none⟩) (zsG _) _⟩;rw[List.append_nil];exact(zaO hown1 hb0.size).kept (grownBy_setCell' W1 w.heap.size _) (.inr (hx1.not_row (by decide) hown1).symm)
 have HWi:=zaa hWi;clear hown1 hb1 hx1 hWi hx0 HC x0
 gi_wp2_with fail
 obtain⟨W2,hW2⟩:∃ W2,W2=W1.setCell ⟨w.heap.size,0,none⟩ (.slice av l.length cv):=⟨_,rfl⟩;rw[<- hW2];have hWi:=uh HWi;rw[<- hW2] at hWi;clear hW2 HWi x1 z1;have hb2:Below w.heap.size w W2:=hWi.choose_spec.2.2;have HWi:=zaa hWi;clear hWi;have hsz2:=hb2.size;refine zgH rfl (by omega) (gf:=120) (fb:=#[.pointer (some ⟨sb,0,none⟩)]) rfl trivial (enters_of Tryz.func120 (by kernel_rfl) rfl) (uh Ht W2 hb2) (λh k=>⟨walksK_t h.1 k.1,zfT h.2 k.2⟩) (λV l o o' h1 h2 h3 h4=>⟨walksK_b (w:=W2) V l o o' h1 h2 h3 h4,zlD (w:=W2) V l o o' h1 h2 h3 h4⟩) (λ_=>rfl)
  (λ(pre:List (PrI G P)) V=>WiI w l (ahI G M (pre.map Subtype.val)) V) ?hI (uh HWi)
  (λx a' V=>∃ Bx,w.heap.size<Bx/\V.heap[Bx]? = some (.cells #[.int .i64 (x.1:Int),.int .i64 0] 121 (0,0))/\a'={ tmps:=#[.pointer (some ⟨sb,0,none⟩),.slice ia l.length ic,undef,.pointer (some ⟨w.heap.size,0,none⟩),.slice none 0 0,.pointer (some ⟨Bx,0,none⟩),.pointer (some ⟨A (zbP G x.1),0,none⟩),undef,undef,.slice ia l.length ic,.slice av l.length cv,.pointer (some ⟨sb,0,none⟩),.func (.func 120) #[.pointer (some ⟨sb,0,none⟩)] #[],.agg #[.int .i64 (x.1:Int),.int .i64 0],.pointer (some ⟨A (zbP G x.1),0,none⟩),undef,undef,undef,undef,undef,undef,undef,undef,undef,undef,undef,undef,undef,undef,undef,undef,undef],defers:=[] })
  ?hAx ?assign ?body ?done
 case hI =>
  rintro s X Y row ⟨v,h1,h2,h3⟩ hg hr;obtain⟨v',k1,k2,-⟩:=holdsRow_own w.heap.size w.heap.size 27 57 3 (λ(_:Unit)=>(l ++ ahI G M (s.map Subtype.val)).length) (λ_=>zaF (l ++ ahI G M (s.map Subtype.val))) (λ_ _=>True) () X Y row ⟨v,h1,h2,trivial⟩ hg (λr e=>(hr r e).2);exact⟨v',k1,k2,h3.grown hg h3.size (λj hj=>zsy hsz2 (hr j hj).1)⟩
 case hAx =>
  rintro x a' _ X Y row ⟨Bx,h1,h2,h3⟩ hg hr;refine⟨Bx,h1,(hg.block Bx (zsO.1 h2).1 (λe=>?_)).trans h2,h3⟩;obtain⟨-,o,h4,h5⟩:=hr Bx e.symm;rw[h2] at h4
  cases h4
  cases h5
 case assign =>
  rintro l0 pre x V K hi hK;obtain⟨v,k1,k2,k3⟩:=hi;have hbV:=k3.size
  dsimp only[zrA]
  gi_wp2
  exact hK _ _ ((KeepsOthers.alloc _ _).from _) ⟨(KeepsOthers.alloc _ _).walks,zeS (World.grownBy_alloc V _ none) (λr e=>by cases e)⟩ ⟨v,k1.alloc _,k2.alloc _,k3.alloc hbV _⟩ ⟨V.heap.size,k1.lt,zsH V _,rfl⟩
 case body =>
  rintro l0 pre x a' V hl0 ⟨r,hr⟩ ⟨v0,hbx,hrow,hbV⟩ ⟨Bx,hBx,bX,rfl⟩ hpl;obtain⟨p,hp,hPp⟩:=x;simp only at bX ⊢;have hset:=zaz ((uh Hh).set (zbP G p) hPp) (zae (O:=λ_=>False) hbV) (λ_ _ h=>h);have hTV:Tb V.heap.size V:=zcX (uh Htab) (zsG _) hbV;have HA:=zaa (all_n (A (zbP G p)) (OO (zbP G p)) (kF M (zbP G p)) (M (zbP G p)) G.nk (λm=>by unfold kF;rw[Bool.and_eq_true,decide_eq_true_eq]) (uh HM (zbP G p)) V hset hTV);have hacc:=zl1 hG M (pre.map Subtype.val);rw[List.length_map] at hacc;have hps:=hG.ps;have hvl:=zid G M p;have hnk:=hG.k3;have hVs:=hbV.size
  have Hend:Hid (∀ V9,WiI w l (ahI G M (pre.map Subtype.val) ++ zja p (zdW G M p)) V9->WiI w l (ahI G M ((pre ++ [(⟨p,hp,hPp⟩:PrI G P)]).map Subtype.val)) V9):=zaa (λV9 h9=>by
   rw[List.map_append];show WiI w l (ahI G M (pre.map Subtype.val ++ [p])) V9;rw[zui]
   exact h9)
  generalize hacE:ahI G M (pre.map Subtype.val)=acc at *;have Hvs:Hid (zgs (zay (M (zbP G p)) G.nk)=zdW G M p):=zaa rfl;rw[uh Hvs] at HA;generalize zdW G M p=vs at *;clear hset hacE Hvs
  gi_wp2_with fail
  refine⟨trivial,(CallsIn.inRound l0 (callsIn_wide.2 (uh HA))).mono ?_⟩;rintro e V2 ⟨vv,rfl,hown,hb2⟩;obtain⟨va,vc,rfl⟩:=zaf hown;have hbx2:Boxed V2 w.heap.size 27 v0:=(hb2.block _ hbx.lt).trans hbx;have hrow2:V2.ownsRow w.heap.size 57 3 v0 (l ++ acc).length (zaF (l ++ acc)):=by
   refine⟨hrow.1,?_⟩;rcases hrow.2 with h9 | ⟨g,cap,cur,e1,e2,e3,e4⟩
   ·exact .inl h9
   ·exact .inr ⟨g,cap,cur,e1,e2,(hb2.block _ (zsO.1 e3).1).trans e3,e4⟩
  have bX2:=(hb2.block _ (zsO.1 bX).1).trans bX;have hko:=zks hb2;have hbV2:Below w.heap.size V V2:=zab hb2 hVs;have Hown:=zaa hown;have Hbx2:=zaa hbx2;have Hrow2:=zaa hrow2;have HbX2:=zaa bX2;have Hko:=zaa hko;have HbV2:=zaa hbV2;clear hown hbx2 hrow2 bX2 hko hb2 hbV2 HA bX hbx hrow
  gi_wp2_with fail
  gi_loopw [18] (λx Vr=>∃ (j:Nat) (v':Value),x=.int .i64 (j:Int)/\j<=vs.length/\Boxed Vr w.heap.size 27 v'/\Vr.ownsRow w.heap.size 57 3 v' (l ++ (acc ++ zja p (vs.take j))).length (zaF (l ++ (acc ++ zja p (vs.take j))))/\Vr.ownsRow V.heap.size 3 1 (.slice va vs.length vc) vs.length (zao vs)/\Vr.heap[Bx]? = some (.cells #[.int .i64 (p:Int),.int .i64 0] 121 (0,0))/\Below w.heap.size V Vr/\KeepsOthers V Vr) (λx _=>vs.length - (intOf x).toNat)
  case atStart=>exact⟨0,v0,rfl,zsK _,uh Hbx2,by simpa [zja] using uh Hrow2,uh Hown,uh HbX2,uh HbV2,uh Hko⟩
  case round =>
   obtain⟨j,v',rfl,hj,hbx,hrow,hown,hbX,hbV9,hko⟩:=hrel;clear Hown Hbx2 Hrow2 HbX2 HbV2 Hko;have hrs:w.heap.size<=wr.heap.size:=zsy hVs hbV9.size;by_cases hjl:j<vs.length
   ·have hjlI:(j:Int)<(vs.length:Int):=by omega
    obtain⟨va',vc',e9,hnr⟩:=zb5 hown;obtain⟨rfl,rfl⟩:va=va'/\vc=vc':=by simpa using e9
    obtain⟨rb,roff,rfl,hrb,q0⟩:=zbg hnr hjl;have hits:=zqk (p:=p) hjl;have hlen:(l ++ (acc ++ zja p (vs.take j))).length=l.length+(acc.length+j):=by simp[zja];omega
    have x0:=hbx.cell;have b0:=zac hbX 0 rfl;obtain⟨a',c',rfl⟩:=zaf hrow;have hnb:(l ++ (acc ++ zja p (vs.take j))).length<=2000000000:=by rw[hlen];omega
    obtain⟨ln,hln⟩:∃ ln,ln=(l ++ (acc ++ zja p (vs.take j))).length:=⟨_,rfl⟩;rw[<- hln] at hrow hnb hbx x0;have Hln:=zaa hln;clear hln;have Hits:=zaa hits;have Hlen:=zaa hlen;have Hnot1:=zaa (znN hown hrow (by decide));have Hnot2:=zaa (zdb hrow hbX (by decide));have HbX:=zaa hbX;have Hown:=zaa hown;have HbV9:=zaa hbV9;have Hko:=zaa hko;clear hits hlen hbX hown hbV9 hko hnr;generalize vs.getD j 0=y at *;have hm1:ln+1<=maxLen:=by unfold maxLen;omega
    have hm2:(ln+1) * 24<=140737488355328:=by omega
    have hm3:w.heap.size<=(wr.alloc (.cells #[.int .i64 (p:Int),.int .i64 0,.int .i64 y] 57)).heap.size:=by simp;omega
    gi_wp2_with (first
     | (gi_at_builtin;go_loud ( refine wpListIn_append_own _ rfl _ _ 27 rfl w.heap.size 57 i0 (.agg #[.int .i64 0,.int .i64 0,.int .i64 0]) 3 24 Tryz.underlying27 hi0 hz0 hz1 hz2 rfl (by decide) _ _ _ rfl (hrow.alloc _) ⟨wr.heap.size,0,none⟩ 1 1 [.int .i64 (p:Int),.int .i64 0,.int .i64 y] rfl rfl (cells3 wr _ _ _ _) (by simp[Value.oneCell']) hm1 hm2 hm3 ?_;intro v9 w3 hown' hg3 _;obtain⟨g',cap',rfl⟩:=ownsRow_succ hown';obtain⟨hv1,hv2,hr2,hk2,hb3⟩:=hbx.appended (by decide) hrow hrs (zsG _) hown' hg3;have x3:=hv1.cell;have z3:=hv1.frozen;have Hap:=zaa (And.intro hv1 (And.intro hv2 (And.intro hr2 (And.intro hk2 (And.intro hb3 hg3)))));clear hown' hg3 hv1 hv2 hr2 hk2 hb3))
     | gi_in)
    obtain⟨hv1,hv2,hr2,hk2,hb3,hg3⟩:=uh Hap;have e1:l ++ (acc ++ zja p (vs.take (j+1)))=(l ++ (acc ++ zja p (vs.take j))) ++ [((p:Int),0,y)]:=by rw[uh Hits];simp
    have h1:=((uh Hown).alloc (.cells #[.int .i64 (p:Int),.int .i64 0,.int .i64 y] 57)).kept hg3 (.inr ((uh Hnot1).resolve_left (by simp)));have hbl:=(zsO.1 (uh HbX)).1;have h2:w3.heap[Bx]? = some (.cells #[.int .i64 (p:Int),.int .i64 0] 121 (0,0)):=(hg3.block Bx (by simp;omega) (uh Hnot2)).trans ((zsZ _ _ _ hbl).trans (uh HbX));refine⟨⟨j+1,_,by simp,by omega,hv2,?_,h1.kept (grownBy_setCell' w3 w.heap.size _) (.inr (zdb h1 hv1 (by decide)).symm),(Below.heap_setCell _ _ _ Bx (by show Bx≠w.heap.size;omega)).trans h2,(uh HbV9).trans hb3,(uh Hko).trans hk2⟩,by simp[intOf];omega⟩;rw[e1,zsI,zch,<- uh Hln];exact hr2
   ·obtain rfl:j=vs.length:=by omega
    have hjlI:¬ ((vs.length:Nat):Int)<(vs.length:Int):=by omega
    rw[zsN] at hrow;have Hbx:=zaa hbx;have Hrow:=zaa hrow;have HbV9:=zaa hbV9;have Hko:=zaa hko;clear hbx hrow hbV9 hko hown hbX
    gi_wp2
    refine⟨rfl,(uh Hko).from _,⟨(uh Hko).walks,(uh HbV9).size,λq v hq hv=>?_⟩,uh Hend wr ⟨v',uh Hbx,uh Hrow,(hbV.trans (uh HbV9))⟩⟩;refine((uh HbV9).cell (p:=q) ?_).trans hv;rcases hq with h9 | h9
    ·rw[h9];have:=(zsO.1 (uh Hh).box).1;exact this
    ·exact hR0 _ h9
 case done =>
  rintro D xs V hD hS ⟨v,hbx,hrow,hbV⟩ hKd;have hall:=zxl (uh Hh).non hS l;have hxl:(l ++ ahI G M (xs.map Subtype.val)).length<=5864062014805:=by
   have h1:=zkc hS.2 (λp' hp'=>by
    obtain⟨x,-,rfl⟩:=List.mem_map.1 hp'
    exact x.2.1)
   have h2:=zl1 hG M (xs.map Subtype.val);have h3:=hG.ps;rw[zsI];omega
  obtain⟨L0,hL0⟩:∃ L0,L0=l ++ ahI G M (xs.map Subtype.val):=⟨_,rfl⟩;rw[<- hL0] at hall hxl hrow;obtain⟨a',c',rfl⟩:=zaf hrow;have HI:=zaa (zdy V.heap.size a' c' L0 hxl V (zsG _) (zaU hrow));rw[hall] at HI;clear hL0;have x0:=hbx.cell;have hDl:=(zsO.1 hKd).1;have hVs:=hbV.size;have HbV:=zaa hbV;have HKd:=zaa hKd;clear hall hrow hbx hbV hS;obtain⟨L,hL⟩:∃ L,L=zct (l ++ mkI G M G.nk G.prods.length):=⟨_,rfl⟩;rw[<- hL] at HI;have HL:=zaa hL;clear hL;generalize L0.length=n0 at *
  gi_wp2_with fail
  refine⟨trivial,(callsIn_wide.2 (uh HI)).mono ?_⟩;rintro e W5 ⟨a5,c5,rfl,hown5,hb5⟩;have hK5:W5.heap[D]? = some (.deferred (some [])):=(hb5.block D hDl).trans (uh HKd);have hown5':=zaO (ownsRow_putObj hown5 (.deferred none) hK5 rfl) hVs;have hb5':Below w.heap.size w (W5.putObj D (.deferred none)):=((uh HbV).trans (zab hb5 hVs)).grown (grownBy_putObj' W5 D (.deferred none)) (by have:=hb5.size;omega) (λj hj=>by cases hj;omega);have Hfin:=zaa (And.intro hown5' hb5');clear hown5 hown5' hb5 hb5'
  gi_wp2
  refine⟨by simp,.inl ⟨_,_,rfl,run_takeDeferred hK5,?_⟩⟩;rw[<- uh HL];exact⟨.slice a5 L.length c5,by simp[results,Tryz.results69,go_sem],a5,c5,rfl,uh Hfin⟩
end Go.Proofs.YtieciibnajeibaaGreatDoor
namespace Go.Proofs.YtieciibnajeibaaGreatDoor
open Go.RowKit Go.Maps
def zhF(R0:Nat->Prop)(B cb gb tb:Nat)(G:Gm)(l:List It)(w:World)(e:Ending)(w':World):Prop :=
 ∃ a c,e=.returned (.tuple #[.slice a (clR G l).length c,.int .i64 (clV G l)])/\w'.ownsRow w.heap.size 57 3 (.slice a (clR G l).length c) (clR G l).length (zaF (clR G l))/\Fr (λk=>k=tb) w w'/\∃ R':Nat->Prop,ClB R' B w' cb gb tb G/\RsT R' w' G tb/\(∀ k,R0 k->R' k)/\(∀ k,R' k->R0 k\/w.heap.size<=k)/\∀ k,R' k->k<w'.heap.size
theorem zqn{B:Nat}{w w':World}{O:Nat->Prop}{a:Option Addr}{l:List It}(h:zcE B w a l)(hB:B<=w.heap.size)(hf:Fr O w w')(ha:∀ x,a=some x->¬ O x.block):zcE B w' a l:=by
 rcases h with h | ⟨b,off,rfl,hlt,hc⟩
 ·exact .inl h
 ·have hk:∀ {j:Nat} {v:Value},w.cell? ⟨b,j,none⟩=some v->w'.cell? ⟨b,j,none⟩=some v:=fun {j v} hv=>(zsL (hf.2.1 b (by omega) (ha _ rfl))).trans hv;exact .inr ⟨b,off,rfl,hlt,λj hj=>⟨hk (hc j hj).1,hk (hc j hj).2.1,hk (hc j hj).2.2⟩⟩
theorem zwT{R:Nat->Prop}{B cb gb tb sb mb lb:Nat}{G:Gm}{P:Nat->Bool}{A:Nat->Nat}{OO:Nat->Nat->Prop}{LO:Nat->Prop}{n:Nat}{M:Nat->Nat->Bool}{H:Nat->Bool}{cnt:Nat}{w:World}(h:ClS R B cb gb tb sb mb lb G P A OO LO n M H cnt w){b:Nat}(hlt:b<w.heap.size)(h1:b≠tb)(h2:b≠sb)(h3:b≠mb)(h4:¬ LO b)(h5:∀ q,P q=true->¬ OO q b):ClS (λk=>R k\/k=b) B cb gb tb sb mb lb G P A OO LO n M H cnt w :=
 ⟨h.box,zgE h.cl (λ_ h=>.inl h),zml h.rt (λ_ h=>.inl h) (λh9=>h9.elim h.rt.1 (λe=>h1 e.symm)),λk hk=>hk.elim (h.rl k) (λe=>e▸hlt),h.mp,h.nle,h.set,h.non,λq hq k hk=>⟨λh9=>h9.elim (h.out q hq k hk).1 (λe=>h5 q hq (e▸hk)),(h.out q hq k hk).2⟩,h.ap,h.ls,λk hk=>⟨λh9=>h9.elim (h.lo k hk).1 (λe=>h4 (e▸hk)),(h.lo k hk).2⟩,⟨λh9=>h9.elim h.nR.1 (λe=>h2 e.symm),λh9=>h9.elim h.nR.2 (λe=>h3 e.symm)⟩,h.pn⟩
theorem zr3{w w':World}{R:Nat->Prop}{G:Gm}{tb B0:Nat}(h:Tb w.heap.size w)(ht:RsT R w G tb)(hB:0<B0)(hf:Fr (λk=>k=tb\/B0<=k) w w'):Tb w'.heap.size w':=by
 refine⟨zsJ h.1 hf.1,λj hj=>?_⟩;have h0:(0:Nat)≠tb:=λe=>by
  obtain⟨-,cs,h1,h2,h3⟩:=ht;have c0:=h.2 0 (by omega);rw[<- e] at h1;rcases h3 0 (zsK _) with h4 | ⟨lb,h4,-⟩
  ·rw[zac h1 0 (by rw[List.getElem?_toArray];exact h4)] at c0;cases c0
  ·rw[zac h1 0 (by rw[List.getElem?_toArray];exact h4)] at c0;cases c0
 exact (zsL (hf.2.1 0 h.1 (by rintro (h9 | h9) <;> first | exact h0 h9 | omega))).trans (h.2 j hj)
theorem zwm{k:Int}(hk:0<=k)(x:It)(hx:x.2.2=k):inR [k]=gF (zlp x):=by
 funext m;unfold inR gF zlp;rw[hx,Bool.eq_iff_iff,decide_eq_true_eq,List.mem_singleton,Bool.and_eq_true,decide_eq_true_eq,decide_eq_true_eq];omega
theorem zwJ{G:Gm}(hG:GOk G){M:Nat->Nat->Bool}(hM:∀ q k,M q k=true->k<G.nk):(mkI G M G.nk G.prods.length).length=zeu G (ctW M) G.prods.length :=
 zp9 (λq=>zuO (hM q) (by have:=hG.k3;omega)) _
theorem clL_mk{G:Gm}{l:List It}{M:Nat->Nat->Bool}(h:∀ r k,M r k=true↔Dm G l r k):zct (l ++ mkI G M G.nk G.prods.length)=clL G l:=by
 unfold clL;rw[zs6 h]
section
variable {R0 R:Nat->Prop} {B cb gb tb sb mb lb:Nat} {G:Gm} {l:List It} {P:Nat->Bool} {A:Nat->Nat} {OO:Nat->Nat->Prop} {LO:Nat->Prop} {n:Nat} {M:Nat->Nat->Bool} {H:Nat->Bool} {cnt:Nat} {w w2 w3:World}
theorem zuP(hlt:65536<(clL G l).length)(h:ClS R B cb gb tb sb mb lb G P A OO LO n M H cnt w2)(h1:∀ k,R0 k->R k)(h2:∀ k,R k->R0 k\/w.heap.size<=k)(hf:Fr (λk=>k=tb) w w2):zhF R0 B cb gb tb G l w (.returned (.tuple #[.slice none 0 0,.int .i64 7])) w2:=by
 have e1:clR G l=[]:=if_neg (by omega);have e2:clV G l=7:=if_neg (by omega);unfold zhF;rw[e1,e2];exact⟨none,0,rfl,World.ownsRow_nil _ _ _ _,hf,R,h.cl,h.rt,h1,h2,h.rl⟩
theorem zwN(hle:(clL G l).length<=65536)(h:ClS R B cb gb tb sb mb lb G P A OO LO n M H cnt w2)(h1:∀ k,R0 k->R k)(h2:∀ k,R k->R0 k\/w.heap.size<=k)(hf:Fr (λk=>k=tb) w w2)(hs:w.heap.size<=w2.heap.size)(hb:Below w2.heap.size w2 w3){a:Option Addr}{c:Nat}(ho:w3.ownsRow w2.heap.size 57 3 (.slice a (clL G l).length c) (clL G l).length (zaF (clL G l))):zhF R0 B cb gb tb G l w (.returned (.tuple #[.slice a (clL G l).length c,.int .i64 0])) w3:=by
 have e1:clR G l=clL G l:=if_pos hle;have e2:clV G l=0:=if_pos hle;have h3:=zbs h hb;unfold zhF;rw[e1,e2];exact⟨a,c,rfl,zaO ho hs,zcQ hf (zae hb),R,h3.cl,h3.rt,h1,h2,h3.rl⟩
end
theorem zdB(R0:Nat->Prop)(B cb gb tb:Nat)(G:Gm)(hG:GOk G)(w:World)(hc0:ClB R0 B w cb gb tb G)(ht:RsT R0 w G tb)(hR0:∀ k,R0 k->k<w.heap.size)(htab:Tb w.heap.size w)(ia:Option Addr)(ic:Nat)(l:List It)(hl:l.length<=1000000000)(hit:∀ x,x ∈ l->zcv G x=true)(hi:zcE w.heap.size w ia l)(hia:∀ x,ia=some x->x.block≠tb) :
 Calls Tryz.prog 34 #[.pointer (some ⟨cb,0,none⟩),.slice ia l.length ic] w λe w'=>zhF R0 B cb gb tb G l w e w':=by
 have HBg:=zaa (zrj R0 B cb gb tb G w hc0 ht hR0);have Hc0:=zaa hc0;have Ht:=zaa ht;have Htab:=zaa htab;have Hi:=zaa hi;clear hc0 ht htab hi;go_enter Tryz.func34,Tryz.ntmps34;go_wp2_with fail;refine(uh HBg).mono ?_;rintro e wS ⟨sb,mb,lb,rfl,hS,hfS,hbS⟩;have hcw:=zna hS hfS;have hsl:=(zsO.1 hS.box).1;have Hcw:=zaa hcw;have HbS:=zaa hbS;clear hS hfS hcw hbS HBg;go_wp2_with fail
 go_loopw [13] (λx wr=>∃ (j:Nat) (M1:Nat->Nat->Bool) (H1:Nat->Bool),x=.int .i64 (j:Int)/\j<=l.length/\ClW R0 w.heap.size B cb gb tb sb mb lb G (λ_=>false) (λ_=>0) wS M1 H1 wr/\ClI G l j M1 H1) (λx _=>l.length - (intOf x).toNat)
 case atStart=>exact⟨0,_,_,rfl,zsK _,uh Hcw,zra G l⟩
 case round =>
  clear Hcw;obtain⟨j,M1,H1,rfl,hj,hw,hci⟩:=hrel;obtain⟨R1,P1,A1,OO1,LO1,n1,h1,hf1,hRR,hR1,hPA,hFr⟩:=hw;have hsz:=hFr.1;have hszS:=(uh HbS).size;have hFw:Fr (λk=>k=tb\/w.heap.size<=k) w wr:=zcQ (zae (uh HbS)) hFr;by_cases hjl:j<l.length
  ·have hjlI:(j:Int)<(l.length:Int):=by omega
   have hir:zcE w.heap.size wr ia l:=zqn (uh Hi) (zsG _) hFw (λx hx h9=>by
    rcases h9 with h9 | h9
    ·exact hia x hx h9
    ·rcases uh Hi with h8 | ⟨b,off,h8,hlt,-⟩
     ·rw[h8] at hjl;simp at hjl
     ·rw[hx] at h8;cases h8;simp at h9;omega)
   obtain⟨b,off,rfl,hbl,q0,q1,q2⟩:=zb3 hir hjl;have hxm:=zdf hjl;have hxi:=hit _ hxm;have HxE:Hid (∃ x,x=l.getD j it0):=zaa ⟨_,rfl⟩;obtain⟨x,hxe⟩:=uh HxE;rw[<- hxe] at q0 q1 q2 hxm hxi;have Hxe:=zaa hxe;clear hxe HxE;obtain⟨xp,xd,xk⟩:=x;obtain⟨e1,e2,e3,e4,e5,e6⟩:=of_decide_eq_true hxi;simp only at q0 q1 q2 e1 e2 e3 e4 e5 e6;obtain⟨p,rfl⟩:∃ p:Nat,xp=p:=⟨xp.toNat,by omega⟩;obtain⟨d,rfl⟩:∃ d:Nat,xd=d:=⟨xd.toNat,by omega⟩;have hk3:=hG.k3;have hkl:xk<1048576:=by unfold Gm.nk at hk3;omega
   obtain⟨W0,hW0⟩:∃ W0,W0=wr.alloc (.cells #[.int .i64 (p:Int),.int .i64 (d:Int),.int .i64 xk] 57):=⟨_,rfl⟩;have hb0:Below wr.heap.size wr W0:=by rw[hW0];exact(zsY _ _).alloc (zsG _) _
   have hbx:W0.heap[wr.heap.size]? = some (.cells #[.int .i64 (p:Int),.int .i64 (d:Int),.int .i64 xk] 57 (0,0)):=by rw[hW0];exact zsH _ _
   have hs0:W0.heap.size=wr.heap.size+1:=by rw[hW0];simp
   have HS5:Hid (∀ W:World,W.heap[wr.heap.size]? = W0.heap[wr.heap.size]?->W.cell? ⟨wr.heap.size,0,none⟩=some (.int .i64 (p:Int))/\W.cell? ⟨wr.heap.size,1,none⟩=some (.int .i64 (d:Int))/\W.cell? ⟨wr.heap.size,2,none⟩=some (.int .i64 xk)):=zaa (λW e=>by
    have h9:=e.trans hbx
    exact⟨zac h9 0 rfl,zac h9 1 rfl,zac h9 2 rfl⟩)
   have hM1:∀ q k,M1 q k=true->k<G.nk:=λq k hk=>zlQ (hci.snd q k hk)
   have HNS:Hid (∀ V:World,Below W0.heap.size W0 V->V.heap[W0.heap.size]? = some (.cells #[.int .i64 xk] 3 (0,0))->V.heap.size=W0.heap.size+1->Calls Tryz.prog 65 #[.slice (some ⟨W0.heap.size,0,none⟩) 1 1] V λe w'=>e=.returned (.pointer (some ⟨W0.heap.size+1,0,none⟩))/\Below W0.heap.size W0 w'/\∃ O,SetN w' (W0.heap.size+1) O (gF (zlp ((p:Int),(d:Int),xk)))/\∀ k,O k->W0.heap.size<=k):=zaa (λV hb hx hs=>by
    refine(zcJ (some ⟨W0.heap.size,0,none⟩) 1 [xk] (by simp) (λy hy=>by rw[List.mem_singleton] at hy;rw[hy];omega) V (.inr ⟨_,0,rfl,by omega,λi hi=>?_⟩)).mono ?_
    ·obtain rfl:i=0:=by simp at hi;omega
     exact zac hx 0 rfl
    ·rintro e w' ⟨rfl,hb',O,h2,h3⟩;rw[hs] at h2 h3
     exact⟨by rw[hs],hb.trans (zab hb' hb.size),O,by rw[<- zwm e5 ((p:Int),(d:Int),xk) rfl];exact h2,λk hk=>by have:=h3 k hk;omega⟩)
   have HLay:Hid (∀ (V:World) (O:Nat->Prop),Below W0.heap.size W0 V->SetN V (W0.heap.size+1) O (gF (zlp ((p:Int),(d:Int),xk)))->(∀ k,O k->W0.heap.size<=k)->Calls Tryz.prog 67 #[.pointer (some ⟨sb,0,none⟩),.agg #[.int .i64 (p:Int),.int .i64 (d:Int)],.pointer (some ⟨W0.heap.size+1,0,none⟩)] V λe w'=>e=.returned (.tuple #[])/\w'.heap[wr.heap.size]? = W0.heap[wr.heap.size]?/\∃ (M2:Nat->Nat->Bool) (H2:Nat->Bool),ClW R0 w.heap.size B cb gb tb sb mb lb G (λ_=>false) (λ_=>0) wS M2 H2 w'/\ClI G l (j+1) M2 H2):=zaa (λV O hbV hsO hO=>by
    have hbwV:Below wr.heap.size wr V:=hb0.trans (zab hbV hb0.size);have hVs:=hbV.size;obtain⟨i1,i2,i3,i4,i5⟩:=zdD h1;have hsb:=(zsO.1 h1.box).1;have hmb:=zda h1.mp;have htb:tb<wr.heap.size:=by obtain⟨_,cs,htc,-⟩:=h1.rt;exact(zsO.1 htc).1
    have hadd:=zwT (zbs h1 hbwV) (b:=wr.heap.size) (by omega) (by omega) (by omega) (by omega) (λhL=>by have:=zg7 h1.ls hL;omega) (λq hq hk=>by have:=zaP (h1.set q hq) hk;omega);refine(zqd _ w.heap.size B cb gb tb sb mb lb G hG P1 A1 OO1 LO1 n1 M1 H1 V (by omega) hadd hf1 hM1 (zlp ((p:Int),(d:Int),xk)) (λk hk=>by have:=of_decide_eq_true hk;unfold Gm.nk;simp only at this;omega) p d xk (by omega) (by omega) (W0.heap.size+1) (.inl ⟨O,hsO,λq hq k hk hk'=>by have:=zaP (h1.set q hq) hk';have:=hO k hk;omega⟩)).mono ?_;intro e w' hp;have hfR:=zqe hp (λh9=>h9.elim h1.rt.1 (λe=>by omega));obtain⟨rfl,M2,H2,hw2,hm2⟩:=zko hp;refine⟨rfl,(hfR.2.1 wr.heap.size (by omega) (λh9=>h9 (.inr rfl))).trans (hbV.block _ (by omega)),M2,H2,?_,?_⟩
    ·exact zkL (λk hk=>.inl (hRR k hk)) (λk hk=>hk.elim (hR1 k) (λe=>.inr (by rw[e];exact hsz))) hPA (zcQ hFr (zae hbwV)) hw2
    ·have hxe:l.getD j it0=((p:Int),(d:Int),xk):=(uh Hxe).symm
     cases hat:atR G ((p:Int),(d:Int),xk) with
     | none =>
       rw[hat] at hm2;obtain⟨rfl,rfl⟩:=hm2;exact zt1 hci (λr hr=>by rw[hxe] at hr;rw[atR_iff.2 hr] at hat;cases hat)
     | some r =>
       rw[hat] at hm2;obtain⟨rfl,ho,hc⟩:=hm2;have hsy:=atR_iff.1 hat;have hrow:∀ y,y ∈ zdK G ((p:Int),(d:Int),xk)->0<=y:=λy hy=>by
        have:=zbf hG (p:=(p:Int)) (by omega) (by omega) y (List.mem_of_mem_drop hy);omega
       have hsk:∀ k,zb2 G (zdK G ((p:Int),(d:Int),xk)) (zlp ((p:Int),(d:Int),xk)) k=true->k<G.nk:=λk hk=>by
        rcases lookB_iff.1 hk with h9 | ⟨-,h9⟩
        ·exact zjx hG hrow h9
        ·have:=of_decide_eq_true h9;unfold Gm.nk;simp only at this;omega
       have h2:=zwO hci (S:=zb2 G (zdK G ((p:Int),(d:Int),xk)) (zlp ((p:Int),(d:Int),xk))) (λk hk=>.base _ hxm r hsy k hk (hsk k hk)) ho (hc.imp (λh=>⟨h.1,h.2.imp (λ_ h=>h.1)⟩) id)
       exact zt2 h2 (r:=r) (by rw[hxe];exact hsy) (λk hk hlk=>layM_iff.2 (.inr ⟨rfl,by rw[hxe] at hlk;exact hlk⟩)))
   clear h1 hf1 hRR hR1 hPA hFr hFw hir hM1 hci hxm hxi hsz hszS;have hlt0:wr.heap.size<W0.heap.size:=by omega
   clear hs0;go_wp2_with fail;rw[<- hW0];clear hW0;refine wp_region_held_drew (S:=(λW:World=>W.cell? ⟨wr.heap.size,0,none⟩=some (.int .i64 (p:Int))/\W.cell? ⟨wr.heap.size,1,none⟩=some (.int .i64 (d:Int))/\W.cell? ⟨wr.heap.size,2,none⟩=some (.int .i64 xk))) (by kernel_rfl) (uh HS5 _ rfl) (λhZ=>?_);refine zad 0 17 rfl rfl hZ (λw ⟨k0,k1,k2⟩=>by go_simp;try rfl) ?_;simp only[Act.put,zsA,zsB,zsC];refine zad 1 18 rfl rfl hZ (λw ⟨k0,k1,k2⟩=>by go_simp;try rfl) ?_;simp only[Act.put,zsA,zsB,zsC];refine zad 2 19 rfl rfl hZ (λw ⟨k0,k1,k2⟩=>by go_simp;try rfl) ?_;simp only[Act.put,zsA,zsB,zsC];refine zad 3 20 rfl rfl hZ (λw ⟨k0,k1,k2⟩=>by go_simp;try rfl) ?_;simp only[Act.put,zsA,zsB,zsC];refine zad 4 21 rfl rfl hZ (λw ⟨k0,k1,k2⟩=>by go_simp;try rfl) ?_;simp only[Act.put,zsA,zsB,zsC];refine zad 5 22 rfl rfl hZ (λw ⟨k0,k1,k2⟩=>by go_simp;try rfl) ?_;simp only[Act.put,zsA,zsB,zsC];refine zad 6 23 rfl rfl hZ (λw ⟨k0,k1,k2⟩=>by go_simp;try rfl) ?_;simp only[Act.put,zsA,zsB,zsC];refine zad 7 24 rfl rfl hZ (λw ⟨k0,k1,k2⟩=>by go_simp;try rfl) ?_;simp only[Act.put,zsA,zsB,zsC];refine zah 8 rfl λK hK=>?_;go_simp;have hbA:Below W0.heap.size W0 (W0.drew.alloc (.cells #[.int .i64 xk] 3)):=(zsY _ _).drew.alloc (by simp) _;have hxA:(W0.drew.alloc (.cells #[.int .i64 xk] 3)).heap[W0.heap.size]? = some (.cells #[.int .i64 xk] 3 (0,0)):=zsH W0.drew _;have hsA:(W0.drew.alloc (.cells #[.int .i64 xk] 3)).heap.size=W0.heap.size+1:=by simp
   refine hK.out _ _ (uh HS5 _ (hbA.block _ (by omega))) (λhZ=>?_);clear hK K;refine zah 9 rfl λK hK=>?_;go_simp;refine(uh HNS _ hbA hxA hsA).mono ?_;rintro e V2 ⟨rfl,hbV2,O2,hs2,hO2⟩;have Hs2:=zaa (And.intro hs2 hO2);clear hs2 hO2;go_wp2_with fail;refine hK.out _ _ (uh HS5 _ (hbV2.block _ (by omega))) (λhZ=>?_);clear hK K;refine zah 10 rfl λK hK=>?_;go_simp;refine(uh HLay V2 O2 hbV2 (uh Hs2).1 (uh Hs2).2).mono ?_;rintro e V3 ⟨rfl,hx3,hw3⟩;have Hw3:=zaa hw3;clear hw3;go_wp2_with fail;refine hK.out _ _ (uh HS5 _ hx3) (λhZ=>?_);clear hK K;refine wpAnyH_done (by kernel_rfl) ?_ _;clear hbA hxA hsA hbV2 Hs2 hx3 HS5 HNS HLay hZ;go_wp2;obtain⟨M2,H2,hw2,hc2⟩:=uh Hw3;have Hw2:=zaa hw2;have Hc2:=zaa hc2;clear hw2 hc2 Hw3;go_roundw
   case rel=>exact⟨j+1,M2,H2,by go_num,by omega,uh Hw2,uh Hc2⟩
   case measure=>simp[intOf];omega
  ·obtain rfl:j=l.length:=by omega
   have hjlI:¬ ((l.length:Nat):Int)<(l.length:Int):=by omega
   have hcf:Fr (λk=>¬ R0 k) w wr:=zai hFw (λk _ h9 hR=>by
    rcases h9 with h9 | h9
    ·exact(uh Ht).1 (h9▸hR)
    ·have:=hR0 k hR;omega)
   have HCl:=zaa (zoq R1 R0 w.heap.size B cb gb tb sb mb lb G hG P1 A1 OO1 LO1 n1 M1 H1 wr (by omega) h1 hf1 (za6 (uh Hc0) hcf) (λk hR=>⟨hR0 k hR,λe=>(uh Ht).1 (e▸hR)⟩) l hit hci);have HR1:=zaa (λk (hk:R1 k)=>(hR1 k hk).imp id (λh9=>zsy hszS h9));have HRR:=zaa hRR;have HFw:=zaa hFw;clear h1 hf1 hRR hR1 hPA hFr hci hcf hFw;go_wp2_with fail;refine(uh HCl).mono ?_;intro e w2 hp;obtain⟨M2,H2,⟨R2,P2,A2,OO2,LO2,n2,h2,hf2,hRR2,hR2,-,hF2⟩,hci2,hc⟩:=hp;have hFw2:Fr (λk=>k=tb\/w.heap.size<=k) w w2:=zcQ (uh HFw) hF2;have hM2:∀ q k,M2 q k=true->k<G.nk:=λq k hk=>zlQ (hci2.snd q k hk);have hcm:=zwJ hG hM2;have hml:=zvX hG hci2.snd;have hR2':∀ k,R2 k->R0 k\/w.heap.size<=k:=λk hk=>by
    rcases hR2 k hk with h9 | h9
    ·exact uh HR1 k h9
    ·exact .inr (by have:=(uh HFw).1;omega)
   have hsw2:=hFw2.1;have hF3:Fr (λk=>k=tb) w w2:=⟨hFw2.1,λk hk ho=>hFw2.2.1 k hk (λh9=>h9.elim ho (λh8=>by omega)),hFw2.2.2⟩;rcases hc with ⟨rfl,hH,hcnt⟩ | ⟨rfl,hcnt⟩
   ·have hM:∀ r k,M2 r k=true↔Dm G l r k:=λr k=>zwP hci2 hH
    have hcf2:Fr (λk=>¬ R0 k) w w2:=zai hFw2 (λk _ h9 hR=>by
     rcases h9 with h9 | h9
     ·exact(uh Ht).1 (h9▸hR)
     ·have:=hR0 k hR;omega)
    have hir:zcE w.heap.size w2 ia l:=by
     rcases uh Hi with h8 | ⟨b,off,h8,hlt,hcc⟩
     ·exact .inl h8
     ·refine zqn (.inr ⟨b,off,h8,hlt,hcc⟩) (zsG _) hFw2 (λx hx h9=>?_);rcases h9 with h9 | h9
      ·exact hia x hx h9
      ·rw[hx] at h8;cases h8;simp at h9;omega
    have HWi:=zaa (zoE R2 R0 B cb gb tb sb mb lb G hG P2 A2 OO2 LO2 n2 M2 H2 _ w2 h2 (za6 (uh Hc0) hcf2) (λk hR=>by have:=hR0 k hR;omega) (zr3 (uh Htab) (uh Ht) (uh Htab).1 hFw2) hM2 ia ic l hl (zaD hir hsw2));rw[clL_mk hM] at HWi;have Hrest:=zaa (And.intro h2 (And.intro (λk hk=>hRR2 k (uh HRR k hk)) (And.intro hR2' hF3)));clear h2 hf2 hRR2 hR2 hF2 hci2 hM2 hcm hml hR2' hF3 hFw2 hM hcf2 hir hcnt hH HCl;go_wp2_with fail;refine(uh HWi).mono ?_;rintro e w3 ⟨a3,c3,rfl,hown3,hb3⟩;obtain⟨h2,hRR2,hR2',hF3⟩:=uh Hrest;have HYes:=zaa (λhle=>zwN hle h2 hRR2 hR2' hF3 hsw2 hb3 hown3);have HNo:=zaa (λhlt=>zuP (l:=l) hlt (zbs h2 hb3) hRR2 hR2' (zcQ hF3 (zae hb3)));clear h2 hRR2 hR2' hF3 hb3 hown3 Hrest HWi;obtain⟨nn,hnn⟩:∃ nn,nn=(clL G l).length:=⟨_,rfl⟩;rw[<- hnn] at HYes HNo;rw[<- hnn];have Hnn:=zaa hnn;clear hnn;by_cases hle:nn<=65536
    ·have hcond:¬ (65536:Int)<(nn:Int):=by omega
     go_wp2;refine bodyPost_ret (v:=.tuple #[.slice a3 nn c3,.int .i64 0]) ?zz1 rfl (uh HYes hle)
     case zz1=>simp[results,Tryz.results34,go_sem]
    ·have hcond:(65536:Int)<(nn:Int):=by omega
     go_wp2;refine bodyPost_ret (v:=.tuple #[.slice none 0 0,.int .i64 7]) ?zz2 rfl (uh HNo (by omega))
     case zz2=>simp[results,Tryz.results34,go_sem]
   ·have HNo:=zaa (zuP (l:=l) (by omega) h2 (λk hk=>hRR2 k (uh HRR k hk)) hR2' hF3);clear h2 hf2 hRR2 hR2 hF2 hci2 hM2 hcm hml hR2' hF3 hFw2 hcnt HCl;go_wp2;refine bodyPost_ret (v:=.tuple #[.slice none 0 0,.int .i64 7]) ?zz3 rfl (uh HNo)
    case zz3=>simp[results,Tryz.results34,go_sem]
theorem zwg:(Tryz.prog.info? 240).map (λi=>(i.zero,i.size,i.bytes))=some (some (.slice none 0 0),1,24):=by kernel_rfl
theorem zwk:(Tryz.prog.info? 110).map (λi=>(i.zero,i.size,i.bytes))=some (some (.pointer none),1,8):=by kernel_rfl
def TyI(W:World)(k:Nat):Prop:=∃ cs t,W.heap[k]? = some (.cells cs t (0,0))/\(t=50\/t=3)
theorem tyI_of{W W':World}{k:Nat}(h:TyI W k)(e:W'.heap[k]? = W.heap[k]?):TyI W' k:=by
 obtain⟨cs,t,h1,h2⟩:=h;exact⟨cs,t,e.trans h1,h2⟩
theorem zhV{W:World}{k b:Nat}(h:TyI W k){cs:Array Value}{t:TypeId}{f:Nat × Nat}(hb:W.heap[b]? = some (.cells cs t f))(h1:t≠50)(h2:t≠3):k≠b:=λe=>by
 obtain⟨ds,u,g1,g2⟩:=h;rw[e,hb] at g1
 cases g1
 rcases g2 with g2 | g2
 ·exact h1 g2
 ·exact h2 g2
theorem znu{W:World}{k:Nat}(h:TyI W k):¬ zcw W k:=by
 obtain⟨ds,u,g1,rfl | rfl⟩:=h
 ·exact zap g1 (by decide) (by decide)
 ·exact zap g1 (by decide) (by decide)
theorem zu8{W:World}{k:Nat}(h:TyI W k){B:Nat}{e:TypeId}{s:Nat}{v:Value}{n:Nat}{xs:List Value}(hr:W.ownsRow B e s v n xs)(h1:e≠50)(h2:e≠3):some k≠v.ownBlock:=by
 rcases hr.2 with ⟨rfl,_⟩ | ⟨g,cap,cur,rfl,_,hg,_⟩
 ·simp[Value.ownBlock]
 ·intro e';have e':k=g:=by simpa [Value.ownBlock] using e'
  exact zhV h hg h1 h2 e'
theorem zjO{O:Nat->Prop}{w:World}{ob n:Nat}{F:Nat->List Int}(h:zbB O w ob n F):∃ O',zbB O' w ob n F/\∀ k,O' k->O k/\TyI w k:=by
 obtain⟨V,hV⟩:=h;refine⟨λk=>k=ob\/∃ r,r<n/\(V r).ownBlock=some k,⟨V,.inl rfl,λk hk=>?_,hV.row,λr hr=>⟨(hV.rows r hr).1,λk hk=>.inr ⟨r,hr,hk⟩⟩,hV.apart⟩,λk hk=>?_⟩
 ·rcases hk with rfl | ⟨r,hr,hk⟩
  ·exact hV.lt _ hV.own
  ·exact hV.lt _ ((hV.rows r hr).2 k hk)
 ·rcases hk with rfl | ⟨r,hr,hk⟩
  ·obtain⟨cs,h1,-⟩:=hV.row;exact⟨hV.own,cs,50,h1,.inl rfl⟩
  ·refine⟨(hV.rows r hr).2 k hk,?_⟩;rcases(hV.rows r hr).1.2 with ⟨e,_⟩ | ⟨g,cap,cur,e,_,hg,_⟩
   ·rw[e] at hk;simp[Value.ownBlock] at hk
   ·rw[e] at hk;obtain rfl:g=k:=by simpa [Value.ownBlock] using hk
    exact⟨_,3,hg,.inr rfl⟩
structure NcI (lo nr np gb:Nat) (na:Option Addr) (nc:Nat) (W1 W:World) (cb ob tb:Nat) (fv:Value) (vs:List Value) (F:Nat->List Int):Prop where
 box:W.heap[cb]? = some (.cells #[.pointer (some ⟨gb,0,none⟩),.slice na nr nc,fv,.slice (some ⟨ob,0,none⟩) nr nr,.slice (some ⟨tb,0,none⟩) (np+1) (np+1)] 109 (0,0))
 lc:lo<=cb
 lt:lo<=tb
 tab:W.heap[tb]? = some (.cells (madeCells #[.slice none 0 0] (np+1)) 240 (0,0))
 row:W.ownsRow lo 110 1 fv vs.length vs
 own:∃ O,zbB O W ob nr F/\∀ k,O k->lo<=k/\TyI W k
 bl:Below lo W1 W
theorem zfV(W:World)(b i:Nat)(v:Value):W.grownBy (W.setCell ⟨b,i,none⟩ v) (some b) :=
 ⟨rfl,rfl,rfl,(KeepsWalks.setCell W _ v).size,λk _ hk=>Below.heap_setCell _ _ _ k (λe=>hk (by rw[e]))⟩
theorem zmK{lo nr np gb:Nat}{na:Option Addr}{nc:Nat}{W1 W:World}{cb ob tb:Nat}{fv:Value}{vs:List Value}{F:Nat->List Int}(h:NcI lo nr np gb na nc W1 W cb ob tb fv vs F)(hlo:lo<=W.heap.size){V2 W6:World}(hb:Below W.heap.size W V2){tmp:Obj}(hg:(V2.alloc tmp).grownBy W6 fv.ownBlock){g cap:Nat}{u:Value}
 (ho:W6.ownsRow lo 110 1 (.slice (some ⟨g,0,none⟩) (vs.length+1) cap) (vs.length+1) (vs ++ [u])) (hw:fv.ownBlock=some g\/g=(V2.alloc tmp).heap.size) :
 W6.heap[cb]? = W.heap[cb]?/\NcI lo nr np gb na nc W1 (W6.setCell ⟨cb,2,none⟩ (.slice (some ⟨g,0,none⟩) (vs.length+1) cap)) cb ob tb (.slice (some ⟨g,0,none⟩) (vs.length+1) cap) (vs ++ [u]) F/\∀ Z O f,SetN V2 Z O f->SetN (W6.setCell ⟨cb,2,none⟩ (.slice (some ⟨g,0,none⟩) (vs.length+1) cap)) Z O f:=by
 have hb3:Below W.heap.size W (V2.alloc tmp):=hb.alloc hb.size _;have hs3:=hb3.size;have hs23:(V2.alloc tmp).heap.size=V2.heap.size+1:=by simp
 have hs2:=hb.size;have hkeep:∀ {k:Nat} {o:Obj},W.heap[k]? = some o->some k≠fv.ownBlock->W6.heap[k]? = some o:=fun {k o} hk hn=>by
  have hkl:=(zsO.1 hk).1;exact(hg.block k (by omega) hn).trans ((hb3.block k hkl).trans hk)
 have hcb:=hkeep h.box (zdb h.row h.box (by decide));have htb:=hkeep h.tab (zdb h.row h.tab (by decide));have hf6:Fr (λk=>some k=fv.ownBlock) (V2.alloc tmp) W6:=⟨hg.size,λk hk ho=>hg.block k hk ho,hg.os,hg.tape,hg.output⟩;have hf7:Fr (λk=>k=cb) W6 (W6.setCell ⟨cb,2,none⟩ (.slice (some ⟨g,0,none⟩) (vs.length+1) cap)):=zaE (zax (λx=>x=cb) W6) (p:=⟨cb,2,none⟩) rfl _;have hcl:=(zsO.1 hcb).1;have htn:tb≠cb:=zav h.tab h.box (by decide);refine⟨hcb.trans h.box.symm,⟨?_,h.lc,h.lt,(hf7.2.1 tb (zsO.1 htb).1 htn).trans htb,?_,?_,?_⟩,λZ O f hs=>?_⟩
 ·rw[Wk.block_set hcb];rfl
 ·have:=ho.kept (zfV W6 cb 2 (.slice (some ⟨g,0,none⟩) (vs.length+1) cap)) (.inr (zdb ho hcb (by decide)).symm);rw[zsI];exact this
 ·obtain⟨O,h1,h2⟩:=h.own;have hOl:∀ k,O k->k<W.heap.size:=by obtain⟨V,hV⟩:=h1;exact hV.lt
  have hnf:∀ k,O k->some k≠fv.ownBlock:=λk hk=>zu8 (h2 k hk).2 h.row (by decide) (by decide);have hnc:∀ k,O k->k≠cb:=λk hk=>zhV (h2 k hk).2 h.box (by decide) (by decide);refine⟨O,zeH (zeH (zaK h1 hb3) hf6 (λk hk e=>hnf k hk e)) hf7 (λk hk e=>hnc k hk e),λk hk=>⟨(h2 k hk).1,tyI_of (h2 k hk).2 ?_⟩⟩;have hkl:=hOl k hk;exact(hf7.2.1 k (by have:=hg.size;omega) (hnc k hk)).trans ((hg.block k (by omega) (hnf k hk)).trans (hb3.block k hkl))
 ·have b6:Below lo W1 W6:=((h.bl.trans (zab hb3 hlo))).grown hg (by omega) (λj hj=>(h.row.lt j hj).1);exact b6.setCell (p:=⟨cb,2,none⟩) h.lc _
 ·have hs':SetN (V2.alloc tmp) Z O f:=zaz hs (zae (O:=λ_=>False) ((zsY _ _).alloc (zsG _) _)) (λ_ _ h=>h);have hty:∀ k,zcw (V2.alloc tmp) k->some k≠fv.ownBlock:=λk hi e=>by
   rcases h.row.2 with ⟨rfl,_⟩ | ⟨g',cap',cur,rfl,_,hg',_⟩
   ·simp[Value.ownBlock] at e
   ·have e:k=g':=by simpa [Value.ownBlock] using e
    subst e;exact zap ((hb3.block k (zsO.1 hg').1).trans hg') (by decide) (by decide) hi
  have h6:SetN W6 Z O f:=zaz hs' hf6 (λk hk e=>hty k (hs'.ty k hk) e);exact zaz h6 hf7 (λk hk e=>zap hcb (by decide) (by decide) (e▸h6.ty k hk))
theorem zi0{lo:Nat}{O:Nat->Prop}{W:World}{ob nr:Nat}{F:Nat->List Int}(h:zbB O W ob nr F)(hO:∀ k,O k->lo<=k):∃ O,zbB O W ob nr F/\∀ k,O k->lo<=k/\TyI W k:=by
 obtain⟨O',h1,h2⟩:=zjO h;exact⟨O',h1,λk hk=>⟨hO k (h2 k hk).1,(h2 k hk).2⟩⟩
theorem zvP{lo nr np gb:Nat}{na:Option Addr}{nc:Nat}{W1 W W2 W7:World}{cb ob tb:Nat}{fv:Value}{vs:List Value}{F F':Nat->List Int}(h:NcI lo nr np gb na nc W1 W cb ob tb fv vs F)(hb:Below W.heap.size W W2){O O':Nat->Prop}(hO:∀ k,O k->lo<=k/\TyI W k)(hlo:lo<=W.heap.size)(ht:zbB O' W7 ob nr F')(hO':∀ k,O' k->O k\/W2.heap.size<=k)(hf:Fr O W2 W7) :
 NcI lo nr np gb na nc W1 W7 cb ob tb fv vs F'/\∀ Z Q f,SetN W Z Q f->SetN W7 Z Q f:=by
 have hs2:=hb.size;have hs7:=hf.1;have hkeep:∀ {k:Nat} {o:Obj},W.heap[k]? = some o->¬ O k->W7.heap[k]? = some o:=fun {k o} hk hn=>by
  have hkl:=(zsO.1 hk).1;exact(hf.2.1 k (by omega) hn).trans ((hb.block k hkl).trans hk)
 refine⟨⟨hkeep h.box (λho=>zhV (hO _ ho).2 h.box (by decide) (by decide) rfl),h.lc,h.lt,hkeep h.tab (λho=>zhV (hO _ ho).2 h.tab (by decide) (by decide) rfl),?_,zi0 ht (λk hk=>(hO' k hk).elim (λh9=>(hO k h9).1) (λh9=>by omega)),?_⟩,λZ Q f hs=>?_⟩
 ·refine⟨h.row.1,?_⟩;rcases h.row.2 with h9 | ⟨g,cap,cur,e1,e2,e3,e4⟩
  ·exact .inl h9
  ·exact .inr ⟨g,cap,cur,e1,e2,hkeep e3 (λho=>zhV (hO _ ho).2 e3 (by decide) (by decide) rfl),e4⟩
 ·exact(h.bl.trans (zab hb hlo)).trans (zau hf (by omega) (λk hk=>(hO k hk).1))
 ·exact zaz (zaz hs (zae (O:=λ_=>False) hb) (λ_ _ h=>h)) hf (λk hk ho=>znu (hO k ho).2 (hs.ty k hk))
theorem zvQ(nr np gb:Nat)(na:Option Addr)(nc:Nat)(W1:World) :
 NcI W1.heap.size nr np gb na nc W1 (((W1.drew.alloc (.cells (madeCells #[.slice none 0 0] nr) 50)).alloc (.cells (madeCells #[.slice none 0 0] (np+1)) 240)).alloc (.cells #[.pointer (some ⟨gb,0,none⟩),.slice na nr nc,.slice none 0 0,.slice (some ⟨W1.heap.size,0,none⟩) nr nr,.slice (some ⟨W1.heap.size+1,0,none⟩) (np+1) (np+1)] 109)) (W1.heap.size+1+1) W1.heap.size (W1.heap.size+1) (.slice none 0 0) [] (λ_=>[]) /\
 NcI W1.heap.size nr np gb na nc W1 (((W1.drew.alloc (.cells (madeCells #[.slice none 0 0] (np+1)) 240)).alloc (.cells (madeCells #[.slice none 0 0] nr) 50)).alloc (.cells #[.pointer (some ⟨gb,0,none⟩),.slice na nr nc,.slice none 0 0,.slice (some ⟨W1.heap.size+1,0,none⟩) nr nr,.slice (some ⟨W1.heap.size,0,none⟩) (np+1) (np+1)] 109)) (W1.heap.size+1+1) (W1.heap.size+1) W1.heap.size (.slice none 0 0) [] (λ_=>[]):=by
 have key:∀ (X Y Z:Obj) (V0 A D E:World),V0=W1.drew->A=V0.alloc X->D=A.alloc Y->E=D.alloc Z->A.heap.size=W1.heap.size+1/\D.heap.size=W1.heap.size+1+1/\Below A.heap.size A D/\Below D.heap.size D E/\Below W1.heap.size W1 E/\E.heap[W1.heap.size]? = A.heap[W1.heap.size]?/\E.heap[W1.heap.size+1]? = D.heap[W1.heap.size+1]?/\D.heap[W1.heap.size+1]? = (A.alloc Y).heap[A.heap.size]?/\E.heap[W1.heap.size+1+1]? = (D.alloc Z).heap[D.heap.size]?:=by
  rintro X Y Z V0 A D E rfl rfl rfl rfl;have s1:(W1.drew.alloc X).heap.size=W1.heap.size+1:=by simp
  have s2:((W1.drew.alloc X).alloc Y).heap.size=W1.heap.size+1+1:=by simp
  have b1:Below W1.heap.size W1 (W1.drew.alloc X):=(zsY _ _).drew.alloc (by simp) _;have b2:Below (W1.drew.alloc X).heap.size (W1.drew.alloc X) ((W1.drew.alloc X).alloc Y):=(zsY _ _).alloc (zsG _) _;have b3:Below ((W1.drew.alloc X).alloc Y).heap.size ((W1.drew.alloc X).alloc Y) (((W1.drew.alloc X).alloc Y).alloc Z):=(zsY _ _).alloc (zsG _) _;refine⟨s1,s2,b2,b3,b1.trans (zab (b2.trans (zab b3 b2.size)) b1.size),?_,b3.block _ (by omega),by rw[s1],by rw[s2]⟩;rw[b3.block _ (by omega),b2.block _ (by omega)]
 constructor
 ·obtain⟨s1,s2,b2,b3,b4,-,e2,e3,e4⟩:=key _ _ _ _ _ _ _ rfl rfl rfl rfl;refine⟨e4.trans (zsH _ _),by omega,by omega,(e2.trans e3).trans (zsH _ _),World.ownsRow_nil _ _ _ _,zi0 (zaK (zaK (zeI W1.drew nr) b2) b3) (λk hk=>by have hk:k=W1.heap.size:=hk;omega),b4⟩
 ·obtain⟨s1,s2,b2,b3,b4,e1,e2,e3,e4⟩:=key (.cells (madeCells #[.slice none 0 0] (np+1)) 240) (.cells (madeCells #[.slice none 0 0] nr) 50) (.cells #[.pointer (some ⟨gb,0,none⟩),.slice na nr nc,.slice none 0 0,.slice (some ⟨W1.heap.size+1,0,none⟩) nr nr,.slice (some ⟨W1.heap.size,0,none⟩) (np+1) (np+1)] 109) _ _ _ _ rfl rfl rfl rfl;have ht:=zeI (W1.drew.alloc (.cells (madeCells #[.slice none 0 0] (np+1)) 240)) nr;rw[s1] at ht;refine⟨e4.trans (zsH _ _),by omega,by omega,e1.trans (zsH W1.drew _),World.ownsRow_nil _ _ _ _,zi0 (zaK ht b3) (λk hk=>by have hk:k=W1.heap.size+1:=hk;omega),b4⟩
theorem zp2(z:Value)(n:Nat):∃ l:List Value,madeCells #[z] n=l.toArray/\l.length=n/\∀ i,i<n->l[i]? = some z:=by
 refine⟨(madeCells #[z] n).toList,by simp,by simp[madeCells],λi hi=>?_⟩;rw[Array.getElem?_toList];simp[madeCells,hi,Nat.mod_one]
theorem zvI{G:Gm}(hG:GOk G)(r:Nat):zbE G G.prods.length r=zfG G r:=by
 unfold zbE zfG;rw[zh6 hG]
theorem zop{G:Gm}(hG:GOk G){B gb:Nat}{w w1 W1 W:World}{na:Option Addr}{nc cb ob tb:Nat}{fv:Value}{vs:List Value}(hgm:GmB B w gb G)(hB:B<=w.heap.size)(hb:Below w.heap.size w W)(hlo:w.heap.size<=W1.heap.size)(hn:zxy w1 na (zay (zat G) G.nr))(hlo1:w1.heap.size<=W1.heap.size)(hb1:Below w1.heap.size w1 W)
 (h:NcI W1.heap.size G.nr G.prods.length gb na nc W1 W cb ob tb fv vs (zbE G G.prods.length)) {fa:Option Addr} {fc:Nat} (hfv:fv=.slice fa G.nr fc) (hvl:vs.length=G.nr) (hs:∀ q,q<G.nr->∃ Z O,vs[q]? = some (.pointer (some ⟨Z,0,none⟩))/\SetN W Z O (fsF G q)/\∀ i,O i->W1.heap.size<=i) :
 ClB (λk=>k<W.heap.size/\k≠tb) B W cb gb tb G/\RsT (λk=>k<W.heap.size/\k≠tb) W G tb/\w.heap.size<=tb/\tb<W.heap.size:=by
 have hr1:=hG.r1;have htl:=(zsO.1 h.tab).1;have hcl:=(zsO.1 h.box).1;have htb:=h.lt;have hWs:=h.bl.size;obtain⟨O0,hT0,-⟩:=h.own;obtain⟨O,hT,-⟩:=zjO hT0;obtain⟨V,hV⟩:=hT;obtain⟨ocs,hob,-⟩:=hV.row;have hobt:ob≠tb:=zav hob h.tab (by decide);have hbx:=h.box;rw[hfv] at hbx;refine⟨⟨na,nc,fa,fc,some ⟨ob,0,none⟩,G.nr,G.prods.length+1,hbx,⟨hcl,zav h.box h.tab (by decide)⟩,za7 (zab hb hB) hgm,zsy hB hb.size,λk hk=>⟨by omega,by omega⟩,λq hq=>?_,λq hq=>?_,λq hq=>?_⟩,⟨λh9=>h9.2 rfl,?_⟩,by omega,htl⟩
 ·obtain⟨b,off,e,hbl,hc⟩:=zvT hn (k:=q) (by rw[zaR];exact hq);rw[zd8 hq] at hc;exact⟨b,off,e,⟨by omega,by omega⟩,(hb1.cell (p:=⟨b,off+q,none⟩) hbl).trans hc⟩
 ·obtain⟨Z,O',h1,h2,h3⟩:=hs q hq;have hrow:=h.row;rcases hrow.2 with ⟨e,h0⟩ | ⟨g,cap,cur,e,hg1,hg2,hg3⟩
  ·omega
  ·have e2:fa=some ⟨g,0,none⟩:=by rw[hfv] at e;simpa using (Value.slice.inj e).1
   refine⟨g,0,Z,O',e2,⟨(zsO.1 hg2).1,zav hg2 h.tab (by decide)⟩,?_,h2,λk hk=>⟨zaP h2 hk,λe3=>zap h.tab (by decide) (by decide) (e3▸h2.ty k hk)⟩⟩;have:=hrow.cells (g:=g) (by rw[e];rfl) q _ h1;rw[show (⟨g,0,none⟩:Addr).add q=⟨g,0+q,none⟩ by unfold Addr.add;split <;> simp_all] at this;exact this
 ·obtain⟨a,c,e,hc,-,-⟩:=za8 hV hq;have hrow:=(hV.rows q hq).1;rw[e] at hrow;rw[zvI hG] at hc hrow;refine⟨ob,0,a,c,rfl,⟨(zsO.1 hob).1,hobt⟩,by rw[Nat.zero_add];exact hc,?_⟩;rcases hrow.2 with ⟨-,h0⟩ | ⟨g,cap,cur,e1,hg1,hg2,hg3⟩
  ·exact .inl (zsX h0)
  ·have e2:a=some ⟨g,0,none⟩:=by simpa using (Value.slice.inj e1).1
   refine .inr ⟨g,0,e2,⟨(zsO.1 hg2).1,zav hg2 h.tab (by decide)⟩,λj hj=>?_⟩;have:=hrow.cells (g:=g) (by rw[e2];rfl) j (.int .i64 ((zfG G q).getD j 0)) (by simp[zao,List.getD_eq_getElem?_getD,List.getElem?_eq_getElem hj]);rw[show (⟨g,0,none⟩:Addr).add j=⟨g,0+j,none⟩ by unfold Addr.add;split <;> simp_all] at this;exact this
 ·obtain⟨l,e1,e2,e3⟩:=zp2 (.slice none 0 0) (G.prods.length+1);exact⟨l,by rw[<- e1];exact h.tab,e2,λp hp=>.inl (e3 p (by omega))⟩
theorem zcu(hLY:zdF 64)(B gb:Nat)(G:Gm)(hc:za1 G=true)(w:World)(hB:B<=w.heap.size)(hgm:GmB B w gb G) :
 Calls Tryz.prog 33 #[.pointer (some ⟨gb,0,none⟩)] w λe w'=>∃ cb tb,e=.returned (.pointer (some ⟨cb,0,none⟩))/\w.heap.size<=tb/\tb<w'.heap.size/\ClB (λk=>k<w'.heap.size/\k≠tb) B w' cb gb tb G/\RsT (λk=>k<w'.heap.size/\k≠tb) w' G tb/\Below w.heap.size w w':=by
 have hG:=zbi hc;have Hgm:=zaa hgm;obtain⟨ka,kc,pa,pc,ra,rc,qa,qc,wa,wc0,hlt,hbox,hin,hw,hwc⟩:=hgm;have hin':=zlL hin hB;have g0:=zac hbox 0 rfl;have g1:=zac hbox 1 rfl;have g2:=zac hbox 2 rfl;have g3:=zac hbox 3 rfl;have g4:=zac hbox 4 rfl;have HL:=zaa (hLY G hc ka pa ra qa kc pc rc qc w hin');have Hbox:=zaa hbox;have Hin:=zaa hin;clear hin hin' hw hbox;unfold gV at HL;go_enter Tryz.func33,Tryz.ntmps33;go_wp2_with fail;refine(uh HL).mono ?_;intro e w1 hp;obtain⟨na,nc,xa,xc,aa,ac,ca,cc,fa,fc,va,vc,rfl,hN,-,-,-,hF,-,hb1⟩:=hp;rw[zaR,zaR,zaR,zaR];have Hb1:=zaa hb1;have HN1:=zaa hN;have HF:=zaa hF;obtain⟨W1,hW1⟩:∃ W1,W1=w1.alloc (.cells #[.slice na G.nr nc,.slice xa G.nr xc,.slice aa G.nr ac,.slice ca G.nr cc,.slice fa (zfF (zdI G) G.nk G.nr).length fc,.slice va (zfF (zqC G) G.nk G.nr).length vc] 103):=⟨_,rfl⟩;have hbW:Below w1.heap.size w1 W1:=by rw[hW1];exact(zsY _ _).alloc (zsG _) _
 have hrb:W1.heap[w1.heap.size]? = some (.cells #[.slice na G.nr nc,.slice xa G.nr xc,.slice aa G.nr ac,.slice ca G.nr cc,.slice fa (zfF (zdI G) G.nk G.nr).length fc,.slice va (zfF (zqC G) G.nk G.nr).length vc] 103 (0,0)):=by rw[hW1];exact zsH _ _
 have hsW:W1.heap.size=w1.heap.size+1:=by rw[hW1];simp
 have hbw1:Below w.heap.size w W1:=hb1.trans (zab hbW hb1.size);have hgl:gb<w.heap.size:=by omega
 have hbx1:=(hbw1.block gb hgl).trans (uh Hbox);clear hb1 hN hF HL g0 g1 g2 g3 g4;have g0:=zac hbx1 0 rfl;have g1:=zac hbx1 1 rfl;have g2:=zac hbx1 2 rfl;have g3:=zac hbx1 3 rfl;have g4:=zac hbx1 4 rfl;have r0:=zac hrb 0 rfl;have HrB:=zaa hrb;have Hbw1:=zaa hbw1;have Hbx1:=zaa hbx1;clear hrb hbw1 hbW hbx1;have hnr:G.rules.length=G.nr:=rfl;rw[hnr] at g2;have hr2:=hG.r2;have hps:=hG.ps;have hmk:=λw=>run_make_row' (P:=Tryz.prog) 43 50 (.slice none 0 0) 24 Tryz.underlying43 zf5 rfl .i64 .i64 G.nr (by omega) (by omega) w;have hmk2:∀ w,(Instr.makeSlice 106 (.int .i64 ((G.prods.length:Int)+1)) (.int .i64 ((G.prods.length:Int)+1))).run Tryz.prog w=.ok (.slice (some ⟨w.heap.size,0,none⟩) (G.prods.length+1) (G.prods.length+1)) (w.alloc (.cells (madeCells #[.slice none 0 0] (G.prods.length+1)) 240)):=λw=>by
  have:=run_make_row' (P:=Tryz.prog) 106 240 (.slice none 0 0) 24 Tryz.underlying106 zwg rfl .i64 .i64 (G.prods.length+1) (by omega) (by omega) w;rw[Int.natCast_add] at this;exact this
 have hwr:IntKind.i64.wrap ((G.prods.length:Int)+1)=(G.prods.length:Int)+1:=by rw[IntKind.wrap_i64];omega
 have hS0:=zsY W1.heap.size W1;have HM:=zaa (zvQ G.nr G.prods.length gb na nc W1)
 have HS2:Hid (∀ W:World,Below W1.heap.size W1 W->W.cell? ⟨w1.heap.size,0,none⟩=some (.slice na G.nr nc)/\W.cell? ⟨gb,2,none⟩=some (.slice ra G.nr rc)/\W.cell? ⟨gb,3,none⟩=some (.slice qa G.prods.length qc)):=zaa (λW hb=>by
  have hgW:gb<W1.heap.size:=by have:=(uh Hbw1).size;omega
  exact⟨(hb.cell (p:=⟨w1.heap.size,0,none⟩) (by show w1.heap.size<_;omega)).trans r0,(hb.cell (p:=⟨gb,2,none⟩) hgW).trans g2,(hb.cell (p:=⟨gb,3,none⟩) hgW).trans g3⟩)
 go_upto_region 2 with fail;rw[<- hW1];have HW1:=zaa hW1;have HsW:=zaa hsW;clear hW1 hsW
 go_cut [5] (λs W=>∃ cb ob tb,s=.pointer (some ⟨cb,0,none⟩)/\NcI W1.heap.size G.nr G.prods.length gb na nc W1 W cb ob tb (.slice none 0 0) [] (λ_=>[]))
 case first =>
  refine wp_region_held_drew (S:=(λW:World=>W.cell? ⟨w1.heap.size,0,none⟩=some (.slice na G.nr nc)/\W.cell? ⟨gb,2,none⟩=some (.slice ra G.nr rc)/\W.cell? ⟨gb,3,none⟩=some (.slice qa G.prods.length qc))) (by kernel_rfl) (uh HS2 _ hS0.drew) (λhZ=>?_);refine zad 0 18 rfl rfl hZ (λw ⟨k0,k1,k2⟩=>by go_simp;try rfl) ?_;simp only[Act.put,zsA,zsB,zsC];refine zad 1 19 rfl rfl hZ (λw ⟨k0,k1,k2⟩=>by go_simp;try rfl) ?_;simp only[Act.put,zsA,zsB,zsC];refine zad 2 20 rfl rfl hZ (λw ⟨k0,k1,k2⟩=>by go_simp;try rfl) ?_;simp only[Act.put,zsA,zsB,zsC];refine zad 3 21 rfl rfl hZ (λw ⟨k0,k1,k2⟩=>by go_simp;try rfl) ?_;simp only[Act.put,zsA,zsB,zsC];refine zad 4 22 rfl rfl hZ (λw ⟨k0,k1,k2⟩=>by go_simp;try rfl) ?_;simp only[Act.put,zsA,zsB,zsC];refine zad 5 23 rfl rfl hZ (λw ⟨k0,k1,k2⟩=>by go_simp;try rfl) ?_;simp only[Act.put,zsA,zsB,zsC];refine zad 6 24 rfl rfl hZ (λw ⟨k0,k1,k2⟩=>by go_simp;try rfl) ?_;simp only[Act.put,zsA,zsB,zsC];refine zad 7 25 rfl rfl hZ (λw ⟨k0,k1,k2⟩=>by go_simp;try rfl) ?_;simp only[Act.put,zsA,zsB,zsC];refine zad 8 26 rfl rfl hZ (λw ⟨k0,k1,k2⟩=>by go_simp;try rfl) ?_;simp only[Act.put,zsA,zsB,zsC];refine zad 10 28 rfl rfl hZ (λw ⟨k0,k1,k2⟩=>by go_simp;try rfl) ?_;simp only[Act.put,zsA,zsB,zsC];refine zad 11 29 rfl rfl hZ (λw ⟨k0,k1,k2⟩=>by go_simp;try rfl) ?_;simp only[Act.put,zsA,zsB,zsC];refine zad 12 30 rfl rfl hZ (λw ⟨k0,k1,k2⟩=>by go_simp;try rfl) ?_;simp only[Act.put,zsA,zsB,zsC];refine zad 13 31 rfl rfl hZ (λw ⟨k0,k1,k2⟩=>by go_simp;try rfl) ?_;simp only[Act.put,zsA,zsB,zsC];refine zad 14 32 rfl rfl hZ (λw ⟨k0,k1,k2⟩=>by go_simp;try rfl) ?_;simp only[Act.put,zsA,zsB,zsC];refine zad 15 33 rfl rfl hZ (λw ⟨k0,k1,k2⟩=>by go_simp;try rfl) ?_;simp only[Act.put,zsA,zsB,zsC];refine zad 16 34 rfl rfl hZ (λw ⟨k0,k1,k2⟩=>by go_simp;try rfl) ?_;simp only[Act.put,zsA,zsB,zsC];refine zcY 9 17 rfl rfl (λK hK=>?_) λK hK=>?_
  ·go_simp;go_wp2_with fail;refine hK.out _ _ (uh HS2 _ (hS0.drew.alloc (by first | (simp;done) | (simp;omega)) _)) (λhZ=>?_);clear hK K;refine zah 17 rfl λK hK=>?_;go_simp;go_wp2_with fail;refine hK.out _ _ (uh HS2 _ ((hS0.drew.alloc (by first | (simp;done) | (simp;omega)) _).alloc (by first | (simp;done) | (simp;omega)) _)) (λhZ=>?_);clear hK K;refine zad 18 36 rfl rfl hZ (λw ⟨k0,k1,k2⟩=>by go_simp;try rfl) ?_;simp only[Act.put,zsA,zsB,zsC];refine zah 19 rfl λK hK=>?_;go_simp;go_wp2_with fail;refine hK.out _ _ (uh HS2 _ (((hS0.drew.alloc (by first | (simp;done) | (simp;omega)) _).alloc (by first | (simp;done) | (simp;omega)) _).alloc (by first | (simp;done) | (simp;omega)) _)) (λhZ=>?_);clear hK K;refine zad 20 5 rfl rfl hZ (λw ⟨k0,k1,k2⟩=>by go_simp;try rfl) ?_;simp only[Act.put,zsA,zsB,zsC];refine wpAnyH_done (by kernel_rfl) ?_ _;go_wp2
   go_meet
   exact⟨_,_,_,rfl,(uh HM).1⟩
  ·go_simp;go_wp2_with fail;refine hK.out _ _ (uh HS2 _ (hS0.drew.alloc (by first | (simp;done) | (simp;omega)) _)) (λhZ=>?_);clear hK K;refine zah 9 rfl λK hK=>?_;go_simp;go_wp2_with fail;refine hK.out _ _ (uh HS2 _ ((hS0.drew.alloc (by first | (simp;done) | (simp;omega)) _).alloc (by first | (simp;done) | (simp;omega)) _)) (λhZ=>?_);clear hK K;refine zad 18 36 rfl rfl hZ (λw ⟨k0,k1,k2⟩=>by go_simp;try rfl) ?_;simp only[Act.put,zsA,zsB,zsC];refine zah 19 rfl λK hK=>?_;go_simp;go_wp2_with fail;refine hK.out _ _ (uh HS2 _ (((hS0.drew.alloc (by first | (simp;done) | (simp;omega)) _).alloc (by first | (simp;done) | (simp;omega)) _).alloc (by first | (simp;done) | (simp;omega)) _)) (λhZ=>?_);clear hK K;refine zad 20 5 rfl rfl hZ (λw ⟨k0,k1,k2⟩=>by go_simp;try rfl) ?_;simp only[Act.put,zsA,zsB,zsC];refine wpAnyH_done (by kernel_rfl) ?_ _;go_wp2
   go_meet
   exact⟨_,_,_,rfl,(uh HM).2⟩
 case rest =>
  obtain⟨cb,ob,tb,rfl,hN⟩:=hcut;generalize wc=W2 at *;have hr4:=zac (uh HrB) 4 rfl;have hbW2:=hN.bl;have q4:=(hbW2.cell (p:=⟨w1.heap.size,4,none⟩) (by have:=uh HsW;show w1.heap.size<_;omega)).trans hr4;have hpl:(zfF (zdI G) G.nk G.nr).length=G.nr:=by unfold zfF;simp
  rw[hpl] at q4;have HNc:=zaa hN;clear hN hr4 hbW2 HM HS2 g0 g1 g2 g3 g4 r0 hmk hmk2 hwr hnr
  have HFr:Hid (∀ (W:World),Below W1.heap.size W1 W->zeb W fa (zfF (zdI G) G.nk G.nr)):=zaa (λW hb=>zbD (uh HF) (show Below w1.heap.size w1 W from by
   have h1:Below w1.heap.size w1 W1:=by rw[uh HW1];exact(zsY _ _).alloc (zsG _) _
   exact h1.trans (zab hb h1.size)))
  obtain⟨i1,hi1,hz10,hz11,hz12⟩:=zak zwk;go_wp2_with fail
  go_loopw [41] (λx W=>∃ (j:Nat) (fv:Value) (vs:List Value),x=.int .i64 (j:Int)/\j<=G.nr/\NcI W1.heap.size G.nr G.prods.length gb na nc W1 W cb ob tb fv vs (λ_=>[])/\vs.length=j/\∀ q,q<j->∃ Z O,vs[q]? = some (.pointer (some ⟨Z,0,none⟩))/\SetN W Z O (fsF G q)/\∀ i,O i->W1.heap.size<=i) (λx _=>G.nr - (intOf x).toNat)
  case atStart=>exact⟨0,_,[],rfl,zsK _,uh HNc,rfl,λq hq=>absurd hq (Nat.not_lt_zero _)⟩
  case round =>
   obtain⟨j,fv,vs,rfl,hj,hN,rfl,hsets⟩:=hrel;have hlo:=hN.bl.size;by_cases hjl:vs.length<G.nr
   ·have hjlI:(vs.length:Int)<(G.nr:Int):=by omega
    have hjp:vs.length<(zfF (zdI G) G.nk G.nr).length:=by rw[hpl];exact hjl
    have hnn:=uh HFr wr hN.bl;obtain⟨b,off,rfl,hbl,hrows⟩:=hnn.resolve_left (λe=>by rw[e] at hjp;simp at hjp);obtain⟨ra1,rc1,c1,hr1⟩:=hrows vs.length hjp;have hrow:(zfF (zdI G) G.nk G.nr).getD vs.length []=zgs (zay (zdI G vs.length) G.nk):=by
     rw[zsE,zsF hjp];simp[zfF]
    rw[hrow] at c1 hr1;have hk3:=hG.k3;have hll:=ziR (zay (zdI G vs.length) G.nk) (zay (zdI G vs.length) G.nk).length;rw[zaR] at hll
    have HNS:Hid (∀ V:World,Below wr.heap.size wr V->V.heap.size=wr.heap.size->Calls Tryz.prog 65 #[.slice ra1 (zgs (zay (zdI G vs.length) G.nk)).length rc1] V λe w'=>e=.returned (.pointer (some ⟨wr.heap.size,0,none⟩))/\Below wr.heap.size wr w'/\∃ O,SetN w' wr.heap.size O (fsF G vs.length)/\∀ k,O k->wr.heap.size<=k):=zaa (λV hb hs=>by
     have hnr:NRow V.heap.size V ra1 (zgs (zay (zdI G vs.length) G.nk)):=zfO (zaS hb hr1) hb.size
     refine(zcJ ra1 rc1 _ (by unfold zgs;rw[zaR];omega) (λy hy=>by
      obtain⟨k,rfl,hk,-⟩:=mem_posL.1 hy
      omega) V hnr).mono ?_
     rintro e w' ⟨rfl,hb',O,h1,h2⟩;rw[hs] at h1 h2 ⊢;refine⟨rfl,hb.trans (zab hb' hb.size),O,?_,h2⟩;have e9:inR (zgs (zay (zdI G vs.length) G.nk))=fsF G vs.length:=by
      funext m;unfold inR fsF;rw[Bool.eq_iff_iff,decide_eq_true_eq,mem_posL,Bool.and_eq_true,decide_eq_true_eq];constructor
      ·rintro⟨k,rfl,-,hk⟩;exact⟨by omega,by simpa using hk⟩
      ·rintro⟨h3,h4⟩;exact⟨m.toNat,by omega,zm0 hG ((zfW G _ _).1 h4),h4⟩
     rw[<- e9];exact h1)
    have q2:=zac hN.box 2 rfl;have hcbl:=(zsO.1 hN.box).1;have HN:=zaa hN;have Hsets:=zaa hsets;obtain⟨fa2,fc2,rfl⟩:=zaf hN.row;generalize (zgs (zay (zdI G vs.length) G.nk)).length=rl at *;clear hN hsets hnn hrows hr1 hrow;go_upto_region 6 with fail;refine wp_region_held_drew (S:=(λ_:World=>True)) (by kernel_rfl) (trivial) (λhZ=>?_);refine zad 0 45 rfl rfl hZ (λw _=>by go_simp;try rfl) ?_;simp only[Act.put,zsA,zsB,zsC];refine zad 1 46 rfl rfl hZ (λw _=>by go_simp;try rfl) ?_;simp only[Act.put,zsA,zsB,zsC];refine zad 2 47 rfl rfl hZ (λw _=>by go_simp;try rfl) ?_;simp only[Act.put,zsA,zsB,zsC];refine zad 3 48 rfl rfl hZ (λw _=>by go_simp;try rfl) ?_;simp only[Act.put,zsA,zsB,zsC];refine zad 5 50 rfl rfl hZ (λw _=>by go_simp;try rfl) ?_;simp only[Act.put,zsA,zsB,zsC];refine zcY 4 6 rfl rfl (λK hK=>?_) λK hK=>?_
    ·go_simp;go_wp2_with fail;refine hK.out _ _ (trivial) (λhZ=>?_);clear hK K;refine zah 6 rfl λK hK=>?_;go_simp;refine(uh HNS wr.drew (zsY _ _).drew rfl).mono ?_;rintro e V2 ⟨rfl,hbV2,O2,hs2,hO2⟩;have q2b:=(hbV2.cell (p:=⟨cb,2,none⟩) hcbl).trans q2;have HV2:=zaa (And.intro hbV2 (And.intro hs2 hO2));clear hbV2 hs2 hO2;go_wp2_with fail;refine hK.out _ _ (trivial) (λhZ=>?_);clear hK K;refine zah 7 rfl λK hK=>?_;go_simp;have hb7:Below V2.heap.size V2 (V2.alloc (.cells #[(.pointer (some ⟨wr.heap.size,0,none⟩))] 110)):=(zsY _ _).alloc (zsG _) _;have hj9:(V2.alloc (.cells #[(.pointer (some ⟨wr.heap.size,0,none⟩))] 110)).heap[V2.heap.size]? = some (.cells #[(.pointer (some ⟨wr.heap.size,0,none⟩))] 110):=zsH _ _;refine hK.out _ _ (trivial) (λhZ=>?_);clear hK K;refine zah 8 rfl λK hK=>?_;have hN:=uh HN;have hbV2:=(uh HV2).1;have ow:=zaW hN.row (hbV2.trans (zab hb7 hbV2.size));refine step_append_lies _ rfl (.tmp 49) (.tmp 52) 107 rfl W1.heap.size 110 i1 (.pointer none) 1 8 Tryz.underlying107 hi1 hz10 hz11 hz12 rfl (by decide) (.slice fa2 vs.length fc2) vs.length vs (by simp[Act.eval]) ow ⟨V2.heap.size,0,none⟩ 1 1 [(.pointer (some ⟨wr.heap.size,0,none⟩))] (by simp[Act.eval]) rfl (λj u hu=>zeP hj9 hu) (λu hu=>by simp at hu;subst hu;rfl) (by decide) (by unfold maxLen;omega) (by omega) (by have:=hbV2.size;simp;omega) _ rfl ?_;intro g cap W6 ho6 hg6 hw6 hlt6;obtain⟨e6,hN6,hS6⟩:=zmK hN hlo hbV2 hg6 ho6 hw6;have hbx6:=e6.trans hN.box;have u2:=zac hbx6 2 rfl;have z2:=Wk.frozen_block hbx6 2;have HN6:=zaa (And.intro hN6 hS6);clear hN6 hS6 e6 hbx6 ho6 hg6 hw6 hlt6 ow hN hbV2 hj9 hb7;go_simp;refine hK.out _ _ (trivial) (λhZ=>?_);clear hK K;refine zad 9 54 rfl rfl hZ (λw _=>by go_simp;try rfl) ?_;simp only[Act.put,zsA,zsB,zsC];refine zad 10 55 rfl rfl hZ (λw _=>by go_simp;try rfl) ?_;simp only[Act.put,zsA,zsB,zsC];refine zah 11 rfl λK hK=>?_;go_simp;go_wp2_with fail;refine hK.out _ _ (trivial) (λhZ=>?_);clear hK K;refine wpAnyH_done (by kernel_rfl) ?_ _;obtain⟨hN7,hS7⟩:=uh HN6;have HN7:=zaa hN7;have HS7:=zaa hS7;clear hN7 hS7 HN6 u2 z2 q2;go_wp2;go_roundw
     case rel =>
      refine⟨vs.length+1,_,_,by go_num,by omega,uh HN7,by simp,λq hq=>?_⟩;obtain⟨-,hs2,hO2⟩:=uh HV2;by_cases e:q=vs.length
      ·subst e;exact⟨wr.heap.size,O2,by simp,uh HS7 _ _ _ hs2,λi hi=>by have:=hO2 i hi;omega⟩
      ·obtain⟨Zq,Oq,h1,h2,h3⟩:=uh Hsets q (by omega);exact⟨Zq,Oq,by rw[List.getElem?_append_left (by omega)];exact h1,uh HS7 _ _ _ (zaz h2 (zae (O:=λ_=>False) (uh HV2).1) (λ_ _ h=>h)),h3⟩
     case measure=>simp[intOf];omega
    ·go_simp;refine(uh HNS wr.drew (zsY _ _).drew rfl).mono ?_;rintro e V2 ⟨rfl,hbV2,O2,hs2,hO2⟩;have q2b:=(hbV2.cell (p:=⟨cb,2,none⟩) hcbl).trans q2;have HV2:=zaa (And.intro hbV2 (And.intro hs2 hO2));clear hbV2 hs2 hO2;go_wp2_with fail;refine hK.out _ _ (trivial) (λhZ=>?_);clear hK K;refine zcY 4 7 rfl rfl (λK hK=>?_) λK hK=>?_;go_simp;go_wp2_with fail;refine hK.out _ _ (trivial) (λhZ=>?_);clear hK K;refine zah 7 rfl λK hK=>?_;go_simp;have hb7:Below V2.heap.size V2 (V2.alloc (.cells #[(.pointer (some ⟨wr.heap.size,0,none⟩))] 110)):=(zsY _ _).alloc (zsG _) _;have hj9:(V2.alloc (.cells #[(.pointer (some ⟨wr.heap.size,0,none⟩))] 110)).heap[V2.heap.size]? = some (.cells #[(.pointer (some ⟨wr.heap.size,0,none⟩))] 110):=zsH _ _;rotate_left;go_simp;have hb7:Below V2.heap.size V2 (V2.alloc (.cells #[(.pointer (some ⟨wr.heap.size,0,none⟩))] 110)):=(zsY _ _).alloc (zsG _) _;have hj9:(V2.alloc (.cells #[(.pointer (some ⟨wr.heap.size,0,none⟩))] 110)).heap[V2.heap.size]? = some (.cells #[(.pointer (some ⟨wr.heap.size,0,none⟩))] 110):=zsH _ _;refine hK.out _ _ (trivial) (λhZ=>?_);clear hK K;refine zah 4 rfl λK hK=>?_;have q2c:=(hb7.cell (p:=⟨cb,2,none⟩) (by have:=(uh HV2).1.size;show cb<_;omega)).trans q2b;go_simp;go_wp2_with fail;rotate_left
     all_goals
      refine hK.out _ _ (trivial) (λhZ=>?_);clear hK K;refine zah 8 rfl λK hK=>?_;have hN:=uh HN;have hbV2:=(uh HV2).1;have ow:=zaW hN.row (hbV2.trans (zab hb7 hbV2.size));refine step_append_lies _ rfl (.tmp 49) (.tmp 52) 107 rfl W1.heap.size 110 i1 (.pointer none) 1 8 Tryz.underlying107 hi1 hz10 hz11 hz12 rfl (by decide) (.slice fa2 vs.length fc2) vs.length vs (by simp[Act.eval]) ow ⟨V2.heap.size,0,none⟩ 1 1 [(.pointer (some ⟨wr.heap.size,0,none⟩))] (by simp[Act.eval]) rfl (λj u hu=>zeP hj9 hu) (λu hu=>by simp at hu;subst hu;rfl) (by decide) (by unfold maxLen;omega) (by omega) (by have:=hbV2.size;simp;omega) _ rfl ?_;intro g cap W6 ho6 hg6 hw6 hlt6;obtain⟨e6,hN6,hS6⟩:=zmK hN hlo hbV2 hg6 ho6 hw6;have hbx6:=e6.trans hN.box;have u2:=zac hbx6 2 rfl;have z2:=Wk.frozen_block hbx6 2;have HN6:=zaa (And.intro hN6 hS6);clear hN6 hS6 e6 hbx6 ho6 hg6 hw6 hlt6 ow hN hbV2 hj9 hb7;go_simp;refine hK.out _ _ (trivial) (λhZ=>?_);clear hK K;refine zad 9 54 rfl rfl hZ (λw _=>by go_simp;try rfl) ?_;simp only[Act.put,zsA,zsB,zsC];refine zad 10 55 rfl rfl hZ (λw _=>by go_simp;try rfl) ?_;simp only[Act.put,zsA,zsB,zsC];refine zah 11 rfl λK hK=>?_;go_simp;go_wp2_with fail;refine hK.out _ _ (trivial) (λhZ=>?_);clear hK K;refine wpAnyH_done (by kernel_rfl) ?_ _;obtain⟨hN7,hS7⟩:=uh HN6;have HN7:=zaa hN7;have HS7:=zaa hS7;clear hN7 hS7 HN6 u2 z2 q2;go_wp2;go_roundw
      case rel =>
       refine⟨vs.length+1,_,_,by go_num,by omega,uh HN7,by simp,λq hq=>?_⟩;obtain⟨-,hs2,hO2⟩:=uh HV2;by_cases e:q=vs.length
       ·subst e;exact⟨wr.heap.size,O2,by simp,uh HS7 _ _ _ hs2,λi hi=>by have:=hO2 i hi;omega⟩
       ·obtain⟨Zq,Oq,h1,h2,h3⟩:=uh Hsets q (by omega);exact⟨Zq,Oq,by rw[List.getElem?_append_left (by omega)];exact h1,uh HS7 _ _ _ (zaz h2 (zae (O:=λ_=>False) (uh HV2).1) (λ_ _ h=>h)),h3⟩
      case measure=>simp[intOf];omega
   ·have hvn:vs.length=G.nr:=by omega
    have hjlI:¬ ((vs.length:Nat):Int)<(G.nr:Int):=by omega
    have hbx9:=(hN.bl.block gb (by have:=(uh Hbw1).size;omega)).trans (uh Hbx1);have g3:=zac hbx9 3 rfl;have hN0:NcI W1.heap.size G.nr G.prods.length gb na nc W1 wr cb ob tb fv vs (zbE G 0):=by
     have e:zbE G 0=λ_=>[]:=by funext r;simp[zbE]
     rw[e];exact hN
    have HN:=zaa hN0;have Hsets:=zaa hsets;have Hvn:=zaa hvn;clear hN hsets hN0 hvn hbx9 q4 HNc;go_wp2_with fail
    go_loopw [63] (λx W=>∃ k:Nat,x=.int .i64 (k:Int)/\k<=G.prods.length/\NcI W1.heap.size G.nr G.prods.length gb na nc W1 W cb ob tb fv vs (zbE G k)/\∀ q,q<G.nr->∃ Z O,vs[q]? = some (.pointer (some ⟨Z,0,none⟩))/\SetN W Z O (fsF G q)/\∀ i,O i->W1.heap.size<=i) (λx _=>G.prods.length - (intOf x).toNat)
    case atStart=>exact⟨0,rfl,zsK _,uh HN,λq hq=>uh Hsets q (by rw[uh Hvn];exact hq)⟩
    case round =>
     clear HN Hsets;obtain⟨k,rfl,hk,hN,hsets⟩:=hrel;generalize wr=W9 at *;have hlo:=hN.bl.size;by_cases hkl:k<G.prods.length
     ·have hklI:(k:Int)<(G.prods.length:Int):=by omega
      have hg9:GIn B W9 G ka pa ra qa:=zes ((zab (uh Hbw1) hB).trans (zab hN.bl (by have:=(uh Hbw1).size;omega))) (uh Hin);obtain⟨b,off,rfl,hbB,rr,rrc,x3,x4,x5,x6,n6,c6,hrr,hac,q0,q1,q2,q3,q4,q5,q6⟩:=zdu hg9.prods hkl;have hpl2:=hG.pl _ (zan hkl);have Hos:=zaa (λr=>zfM G k r);clear hac hg9;generalize G.prods.getD k pd0=p at *;obtain⟨pl,prt,plv,pac⟩:=p;simp only at q0 q1 q2 hpl2 hrr;obtain⟨lf,rfl⟩:∃ l:Nat,pl=(l:Int):=⟨pl.toNat,by omega⟩;have hl':lf<G.nr:=by have:=hpl2.2;omega
      obtain⟨W2,hW2⟩:∃ W2,W2=W9.alloc (.cells #[.int .i64 (lf:Int),.slice rr prt.length rrc,.int .i64 plv,.int .i64 x3,.int .i64 x4,.string x5,.slice x6 n6 c6] 116):=⟨_,rfl⟩;have hb2:Below W9.heap.size W9 W2:=by rw[hW2];exact(zsY _ _).alloc (zsG _) _
      have hpb:W2.heap[W9.heap.size]? = some (.cells #[.int .i64 (lf:Int),.slice rr prt.length rrc,.int .i64 plv,.int .i64 x3,.int .i64 x4,.string x5,.slice x6 n6 c6] 116):=by rw[hW2];exact zsH _ _
      have hsz2:W2.heap.size=W9.heap.size+1:=by rw[hW2];simp
      obtain⟨i3,hi3,hz30,hz31,hz32⟩:=zak zdL;obtain⟨O1,hT1,hO1⟩:=hN.own;have hltO:∀ j,O1 j->j<W9.heap.size:=by obtain⟨V,hV⟩:=hT1;exact hV.lt
      have hT1':=zaK hT1 hb2;obtain⟨V1,hV1⟩:=hT1';obtain⟨ta,tc,hVl,tcl,-,-⟩:=za8 hV1 hl';have hcbl:=(zsO.1 hN.box).1;have hlen:=zgZ G lf k
      have HS:Hid (∀ W,Fr O1 W2 W->(λW:World=>W.cell? ⟨cb,3,none⟩=some (.slice (some ⟨ob,0,none⟩) G.nr G.nr)/\W.cell? ⟨W9.heap.size,0,none⟩=some (.int .i64 (lf:Int))) W):=zaa (λW hf=>by
       have h1:=(hf.2.1 cb (by omega) (λh=>zhV (hO1 cb h).2 hN.box (by decide) (by decide) rfl)).trans ((hb2.block cb hcbl).trans hN.box);have h2:=(hf.2.1 W9.heap.size (by omega) (λh=>by have:=hltO _ h;omega)).trans hpb
       exact⟨zac h1 3 rfl,zac h2 0 rfl⟩)
      have HT:=zaa hV1;have HVl:=zaa hVl;have HRow:=zaa (show W2.ownsRow 0 3 1 (.slice ta (zbE G k lf).length tc) (zbE G k lf).length (zao (zbE G k lf)) by rw[<- hVl];exact(hV1.rows lf hl').1);have hlr:=hl';have hF0:Fr O1 W2 W2:=zax _ _;generalize hFl:zbE G k lf=Fl at *;have HN:=zaa hN;have Hsets:=zaa hsets;have HO1:=zaa hO1;have HltO:=zaa hltO;clear hT1 hV1 hVl hN hsets;go_wp2;rw[<- hW2];have Hb2:=zaa hb2;clear hW2
      have HE:Hid (zkX (zbE G k) lf (Fl ++ [(k:Int)])=zbE G (k+1)):=zaa (by
       funext r;rw[uh Hos r,zsS];by_cases e:lf=r
       ·subst e;rw[if_pos rfl,ze6,hFl]
       ·rw[if_neg e,ziE (λh=>e h.symm)])
      refine wp_region_held_drew (S:=(λW:World=>W.cell? ⟨cb,3,none⟩=some (.slice (some ⟨ob,0,none⟩) G.nr G.nr)/\W.cell? ⟨W9.heap.size,0,none⟩=some (.int .i64 (lf:Int)))) (by kernel_rfl) (uh HS _ hF0) (λhZ=>?_);refine zad 0 68 rfl rfl hZ (λw ⟨k0,k1⟩=>by go_simp;try rfl) ?_;simp only[Act.put,zsA,zsB,zsC];refine zad 1 69 rfl rfl hZ (λw ⟨k0,k1⟩=>by go_simp;try rfl) ?_;simp only[Act.put,zsA,zsB,zsC];refine zad 2 70 rfl rfl hZ (λw ⟨k0,k1⟩=>by go_simp;try rfl) ?_;simp only[Act.put,zsA,zsB,zsC];refine zad 3 71 rfl rfl hZ (λw ⟨k0,k1⟩=>by go_simp;try rfl) ?_;simp only[Act.put,zsA,zsB,zsC];refine zad 4 72 rfl rfl hZ (λw ⟨k0,k1⟩=>by go_simp;try rfl) ?_;simp only[Act.put,zsA,zsB,zsC];refine zad 5 73 rfl rfl hZ (λw ⟨k0,k1⟩=>by go_simp;try rfl) ?_;simp only[Act.put,zsA,zsB,zsC];refine zad 6 74 rfl rfl hZ (λw ⟨k0,k1⟩=>by go_simp;try rfl) ?_;simp only[Act.put,zsA,zsB,zsC];refine zad 7 75 rfl rfl hZ (λw ⟨k0,k1⟩=>by go_simp;try rfl) ?_;simp only[Act.put,zsA,zsB,zsC];refine zad 8 76 rfl rfl hZ (λw ⟨k0,k1⟩=>by go_simp;try rfl) ?_;simp only[Act.put,zsA,zsB,zsC];refine zad 9 77 rfl rfl hZ (λw ⟨k0,k1⟩=>by go_simp;try rfl) ?_;simp only[Act.put,zsA,zsB,zsC];refine zad 10 78 rfl rfl hZ (λw ⟨k0,k1⟩=>by go_simp;try rfl) ?_;simp only[Act.put,zsA,zsB,zsC];refine zad 11 79 rfl rfl hZ (λw ⟨k0,k1⟩=>by go_simp;try rfl) ?_;simp only[Act.put,zsA,zsB,zsC];refine zad 12 80 rfl rfl hZ (λw ⟨k0,k1⟩=>by go_simp;try rfl) ?_;simp only[Act.put,zsA,zsB,zsC];refine zad 14 82 rfl rfl hZ (λw ⟨k0,k1⟩=>by go_simp;try rfl) ?_;simp only[Act.put,zsA,zsB,zsC];refine zcY 13 15 rfl rfl (λK hK=>?_) λK hK=>?_;go_simp;refine hK.out _ _ (uh HS _ hF0) (λhZ=>?_);clear hK K;refine zah 15 rfl λK hK=>?_;go_simp;have hj9:(W2.alloc (.cells #[.int .i64 (k:Int)] 3)).heap[W2.heap.size]? = some (.cells #[.int .i64 (k:Int)] 3):=zsH _ _;have hbA:Below W2.heap.size W2 (W2.alloc (.cells #[.int .i64 (k:Int)] 3)):=(zsY _ _).alloc (zsG _) _;have hF:=zdi hF0 hbA;rotate_left;go_simp;have hj9:(W2.alloc (.cells #[.int .i64 (k:Int)] 3)).heap[W2.heap.size]? = some (.cells #[.int .i64 (k:Int)] 3):=zsH _ _;have hbA:Below W2.heap.size W2 (W2.alloc (.cells #[.int .i64 (k:Int)] 3)):=(zsY _ _).alloc (zsG _) _;have hF:=zdi hF0 hbA;refine hK.out _ _ (uh HS _ hF) (λhZ=>?_);clear hK K;refine zah 13 rfl λK hK=>?_;have tcl2:(W2.alloc (.cells #[.int .i64 (k:Int)] 3)).cell? ⟨ob,lf,none⟩=some (.slice ta Fl.length tc):=(hbA.cell (p:=⟨ob,lf,none⟩) ((uh HT).lt _ (uh HT).own)).trans tcl;go_simp;rotate_left
      all_goals
       refine hK.out _ _ (uh HS _ hF) (λhZ=>?_);clear hK K;refine zah 16 rfl λK hK=>?_;have ow:=zaO (zaW (uh HRow) hbA) (zsG _);refine step_append_lies _ rfl (.tmp 81) (.tmp 83) 50 rfl 0 3 i3 (.int .i64 0) 1 8 Tryz.underlying50 hi3 hz30 hz31 hz32 rfl (by decide) (.slice ta Fl.length tc) Fl.length (zao Fl) (by simp[Act.eval]) ow ⟨W2.heap.size,0,none⟩ 1 1 [.int .i64 (k:Int)] (by simp[Act.eval]) rfl (λj u hu=>zeP hj9 hu) (λu hu=>by simp at hu;subst hu;rfl) (by decide) (by unfold maxLen;omega) (by omega) (zsK _) _ rfl ?_;intro g cap W6 ho6 hg6 hw6 hlt6;have hg6:(W2.alloc (.cells #[.int .i64 (k:Int)] 3)).grownBy W6 (Value.ownBlock (.slice ta Fl.length tc)):=⟨hg6.os,hg6.tape,hg6.output,hg6.size,hg6.block⟩;rw[<- uh HVl] at hg6 hw6;have ho6:W6.ownsRow 0 3 1 (.slice (some ⟨g,0,none⟩) (Fl ++ [(k:Int)]).length cap) (Fl ++ [(k:Int)]).length (zao (Fl ++ [(k:Int)])):=by rw[<- zaX,zsI];exact ho6
       obtain⟨hT7,hF7⟩:=zee (uh HT) hlr hbA rfl ho6 hg6 hw6 hlt6;have hF6:Fr _ W2 W6:=⟨zsy hF.1 hg6.size,λj hj ho=>(hg6.block j (zsJ hj hF.1) (λe=>ho (((uh HT).rows _ hlr).2 j e.symm))).trans (hF.2.1 j hj ho),hg6.os.trans hF.2.2.1,hg6.tape.trans hF.2.2.2.1,hg6.output.trans hF.2.2.2.2⟩;go_simp;refine hK.out _ _ (uh HS _ hF6) (λhZ=>?_);clear hK K;refine zad 17 85 rfl rfl hZ (λw ⟨k0,k1⟩=>by go_simp;try rfl) ?_;simp only[Act.put,zsA,zsB,zsC];refine zah 18 rfl λK hK=>?_;have hfz:W6.frozen? ⟨ob,lf,none⟩=false:=(zbI (uh HT) hlr hbA hg6);have hcz:=zcx (uh HT) hlr hbA hg6;rw[uh HVl] at hcz;go_simp;have hlen6:(Fl ++ [(k:Int)]).length=Fl.length+1:=by simp
       rw[hlen6] at hT7 hF7;refine hK.out _ _ (uh HS _ hF7) (λhZ=>?_);clear hK K;refine wpAnyH_done (by kernel_rfl) ?_ _;have HT7:=zaa hT7;have HF7:=zaa hF7;have hs6:=hg6.size;clear ow hT7 hF7 hF6 ho6 hg6 hw6 hlt6 hfz hcz hF hj9 hlen6 hZ;have hT7:=uh HT7;rw[uh HE] at hT7;obtain⟨hN7,hS7⟩:=zvP (uh HN) (uh Hb2) (uh HO1) hlo hT7 (λj hj=>hj.imp id (λh=>h.1)) (uh HF7);have HN7:=zaa hN7;have HS7:=zaa hS7;clear hT7 hN7 hS7 HT7 HF7 HT HVl HRow HS tcl hF0;go_wp2;go_roundw
       case rel =>
        refine⟨k+1,by go_num,by omega,uh HN7,λq hq=>?_⟩;obtain⟨Zq,Oq,h1,h2,h3⟩:=uh Hsets q hq;exact⟨Zq,Oq,h1,uh HS7 _ _ _ h2,h3⟩
       case measure=>simp[intOf];omega
     ·obtain rfl:k=G.prods.length:=by omega
      have hkl2:¬ ((G.prods.length:Nat):Int)<(G.prods.length:Int):=by omega
      obtain⟨fa2,fc2,hfv⟩:=zaf hN.row;rw[uh Hvn] at hfv;have hbw9:Below w.heap.size w W9:=(uh Hbw1).trans (zab hN.bl (uh Hbw1).size)
      have HP:=zaa (zop hG (uh Hgm) hB hbw9 (by have:=(uh Hbw1).size;omega) (uh HN1) (by have:=uh HsW;have:=(uh Hb1).size;omega) (by
       have h1:Below w1.heap.size w1 W1:=by rw[uh HW1];exact(zsY _ _).alloc (zsG _) _
       exact h1.trans (zab hN.bl h1.size)) hN hfv (uh Hvn) hsets)
      have hbl9:=zaa hbw9;clear hN hsets hbw9 hfv;go_wp2;go_ret;obtain⟨h1,h2,h3,h4⟩:=uh HP;exact⟨cb,rfl,tb,h3,h4,h1,h2,uh hbl9⟩
theorem zuI{G:Gm}{l m:List It}(h:∀ x,x ∈ l->x ∈ m){r k:Nat}(hd:Dm G l r k):Dm G m r k:=by
 induction hd with
 | base x hx r hr k hk hn=>exact .base x (h x hx) r hr k hk hn
 | step r k hd p hp hl r' hr k' hk hn ih=>exact .step r k ih p hp hl r' hr k' hk hn
theorem zrb{G:Gm}(hG:GOk G){l m:List It}(h:∀ x,x ∈ l↔x ∈ m):clL G l=clL G m:=by
 refine zdo (zfI G l) (zfI G m) (λx=>?_);rw[zcK hG,zcK hG];have hd:∀ r k,Dm G l r k↔Dm G m r k:=λr k=>⟨zuI (λx hx=>(h x).1 hx),zuI (λx hx=>(h x).2 hx)⟩;unfold zxI;rw[h x];constructor
 ·rintro(h1 | ⟨p,k,e,hp,hk,r,hl,h2⟩)
  ·exact .inl h1
  ·exact .inr ⟨p,k,e,hp,hk,r,hl,(hd r k).1 h2⟩
 ·rintro(h1 | ⟨p,k,e,hp,hk,r,hl,h2⟩)
  ·exact .inl h1
  ·exact .inr ⟨p,k,e,hp,hk,r,hl,(hd r k).2 h2⟩
theorem zwU{G:Gm}(hG:GOk G)(l:List It):clR G (zct l)=clR G l/\clV G (zct l)=clV G l:=by
 have e:clL G (zct l)=clL G l:=zrb hG (λx=>mem_ordI);unfold clR clV;rw[e];exact⟨rfl,rfl⟩
def allI(G:Gm):List It:=(List.range (G.prods.length+1)).flatMap λ(p:Nat)=>(List.range 65).flatMap λ(d:Nat)=>(List.range G.nk).map λ(k:Nat)=>((p:Int),(d:Int),(k:Int))
theorem ztf{G:Gm}(hG:GOk G){x:It}(h:zcv G x=true):x ∈ allI G:=by
 obtain⟨e1,e2,e3,e4,e5,e6⟩:=of_decide_eq_true h;have hl:=zcA hG e1 e2;obtain⟨xp,xd,xk⟩:=x;simp only at e1 e2 e3 e4 e5 e6 hl;refine List.mem_flatMap.2 ⟨xp.toNat,List.mem_range.2 (by omega),List.mem_flatMap.2 ⟨xd.toNat,List.mem_range.2 (by omega),List.mem_map.2 ⟨xk.toNat,List.mem_range.2 (by unfold Gm.nk;omega),?_⟩⟩⟩;exact zuF (by simp only;omega) (by simp only;omega) (by simp only;omega)
theorem zeU{α:Type}{f:Nat->List α}{c:Nat}(h:∀ i,(f i).length<=c):∀ n,((List.range n).flatMap f).length<=n * c
 | 0=>by simp
 | n+1=>by
   have ih:=zeU h n;have:=h n;rw[List.range_succ,List.flatMap_append,zsI,Nat.succ_mul,List.flatMap_cons,List.flatMap_nil,List.append_nil];omega
theorem zgv{G:Gm}(hG:GOk G){l:List It}(h:∀ x,x ∈ l->zcv G x=true):(zct l).length<=1000000000:=by
 have h1:=zfH (zdp l) (λx hx=>ztf hG (h x (mem_ordI.1 hx)));have h2:(allI G).length<=(G.prods.length+1) * (65 * 1024):=zeU (λp=>zeU (c:=1024) (λd=>by rw[List.length_map,List.length_range];have:=hG.k3;omega) 65) _;have h3:(G.prods.length+1) * (65 * 1024)<=4097 * (65 * 1024):=Nat.mul_le_mul_right _ (by have:=hG.ps;omega);omega
noncomputable def zdC(G:Gm)(l:List It):List It:=if za1 G then if zck G l then clR G l else[] else[]
noncomputable def zfw(G:Gm)(l:List It):Int:=if za1 G then if zck G l then clV G l else 140 else 130
def zdG(G:Gm)(l:List It)(w:World)(e:Ending)(w':World):Prop:=∃ a c,e=.returned (.tuple #[.slice a (zdC G l).length c,.int .i64 (zfw G l)])/\w'.ownsRow w.heap.size 57 3 (.slice a (zdC G l).length c) (zdC G l).length (zaF (zdC G l))/\Below w.heap.size w w'
theorem zq6{G:Gm}{l:List It}{w w':World}{v:Int}(h1:zdC G l=[])(h2:zfw G l=v)(hb:Below w.heap.size w w'):zdG G l w (.returned (.tuple #[.slice none 0 0,.int .i64 v])) w':=by
 unfold zdG;rw[h1,h2];exact⟨none,0,rfl,World.ownsRow_nil _ _ _ _,hb⟩
theorem ztZ(hLY:zdF 64)(G:Gm)(ka pa ra qa:Option Addr)(kc pc rc qc:Nat)(ia:Option Addr)(ic:Nat)(l:List It)(hl:l.length<=5864062014805)(w:World)(hin:GIn w.heap.size w G ka pa ra qa)(hsm:smG G)(htab:Tb w.heap.size w)(hi:zcE w.heap.size w ia l) :
 Calls Tryz.prog 9 #[gV G ka pa ra qa kc pc rc qc,.slice ia l.length ic] w λe w'=>zdG G l w e w':=by
 have HN:Hid (∀ W1:World,W1=(w.alloc (.cells #[.slice ka G.kinds.length kc,.slice pa G.precs.length pc,.slice ra G.rules.length rc,.slice qa G.prods.length qc,.int .i64 G.start] 26)).alloc (.cells #[.slice ia l.length ic] 27)->Calls Tryz.prog 32 #[gV G ka pa ra qa kc pc rc qc,.slice (some ⟨w.heap.size+1,0,none⟩) 1 1] W1 λe w'=>zjE G [l] w e w'):=zaa (λW1 hW1=>by
  have hb01:Below w.heap.size w W1:=by rw[hW1];exact((zsY _ _).alloc (zsG _) _).alloc (by simp) _
  have hs1:W1.heap.size=w.heap.size+1+1:=by rw[hW1];simp
  have hx1:W1.heap[w.heap.size+1]? = some (.cells #[.slice ia l.length ic] 27 (0,0)):=by
   have:=zsH (w.alloc (.cells #[.slice ka G.kinds.length kc,.slice pa G.precs.length pc,.slice ra G.rules.length rc,.slice qa G.prods.length qc,.int .i64 G.start] 26)) (.cells #[.slice ia l.length ic] 27);rw[<- hW1] at this;simpa using this
  refine(zem G ka pa ra qa kc pc rc qc (some ⟨w.heap.size+1,0,none⟩) 1 [l] (by simp) W1 (zbY hin hb01) hsm (.inr ⟨w.heap.size+1,0,rfl,by omega,λj hj=>by
   obtain rfl:j=0:=by simp at hj;omega
   exact⟨ia,ic,zac hx1 0 rfl,zaD (zaw hb01 hi) hb01.size,by simp;omega⟩⟩)).mono ?_
  rintro e w' ⟨h1,h2⟩;refine⟨hb01.trans (zab h1 hb01.size),?_⟩;rcases h2 with h2 | h2 | ⟨h2,h3,gb,h4,h5,h6⟩
  ·exact .inl h2
  ·exact .inr (.inl h2)
  ·exact .inr (.inr ⟨h2,h3,gb,h4,by omega,h6⟩))
 have Hi:=zaa hi;have Htab:=zaa htab;unfold gV at HN ⊢;clear hin hi htab;go_enter Tryz.func9,Tryz.ntmps9;go_wp2_with fail;refine(uh HN _ rfl).mono ?_;rintro e w' ⟨hb,h | h | h⟩
 ·obtain⟨h1,rfl⟩:=h;have h2:zdC G l=[]:=by unfold zdC;rw[h1];rfl
  have h3:zfw G l=130:=by unfold zfw;rw[h1];rfl
  have Hf:=zaa (zq6 h2 h3 hb);clear hb h1 h2 h3 HN Hi;go_wp2;refine bodyPost_ret (v:=.tuple #[.slice none 0 0,.int .i64 130]) ?zz1 rfl (uh Hf)
  case zz1=>simp[results,Tryz.results9,go_sem]
 ·obtain⟨h1,h4,rfl⟩:=h;have h5:zck G l=false:=by simpa [zdJ] using h4
  have h2:zdC G l=[]:=by unfold zdC;rw[h1,h5];rfl
  have h3:zfw G l=140:=by unfold zfw;rw[h1,h5];rfl
  have Hf:=zaa (zq6 h2 h3 hb);clear hb h1 h2 h3 h4 h5 HN Hi;go_wp2;refine bodyPost_ret (v:=.tuple #[.slice none 0 0,.int .i64 140]) ?zz2 rfl (uh Hf)
  case zz2=>simp[results,Tryz.results9,go_sem]
 ·obtain⟨h1,h4,gb,rfl,h6,h7⟩:=h;have h5:zck G l=true:=by simpa [zdJ] using h4
  have hG:=zbi h1;have hci:zdC G l=clR G l:=by unfold zdC;rw[h1,h5];rfl
  have hcv:zfw G l=clV G l:=by unfold zfw;rw[h1,h5];rfl
  have HC:=zaa (zcu hLY w'.heap.size gb G h1 w' (zsG _) h7);have HE:=zaa (And.intro hci hcv);have HG:=zaa hG;have Hb:=zaa hb;have Hx:=zaa h5;clear hb h4 h5 h6 h7 HN hci hcv hG;go_wp2_with fail;refine(uh HC).mono ?_;rintro e w2 ⟨cb,tb,rfl,ht1,ht2,hcl,hrs,hb2⟩;have hbw:Below w.heap.size w w2:=(uh Hb).trans (zab hb2 (uh Hb).size);have hs2:=hbw.size;have hir:zcE w2.heap.size w2 ia l:=zaD (zaw hbw (uh Hi)) hs2;have HI:=zaa (zdy w2.heap.size ia ic l hl w2 (zsG _) hir);have Hcl:=zaa hcl;have Hrs:=zaa hrs;have Hbw:=zaa hbw;have Hht:=zaa (And.intro ht1 ht2);have hszw:=(uh Hb).size;have HO:Hid (zdC G (zct l)=zdC G (zct l)):=zaa rfl;clear hcl hrs hbw hb2 hir ht1 ht2 HC HO;obtain⟨L,hL⟩:∃ L,L=zct l:=⟨_,rfl⟩;rw[<- hL] at HI;have HL:=zaa hL;clear hL;go_wp2_with fail;refine(uh HI).mono ?_;rintro e w3 ⟨a3,c3,rfl,hown3,hb3⟩;have hG:=uh HG;obtain⟨ht1,ht2⟩:=uh Hht;have hs3:=hb3.size;have hit:∀ x,x ∈ L->zcv G x=true:=λx hx=>areIt_iff.1 (uh Hx) x (mem_ordI.1 (by rw[<- uh HL];exact hx));have hLl:L.length<=1000000000:=by
   rw[uh HL];exact zgv hG (λx hx=>areIt_iff.1 (uh Hx) x hx)
  have hcl3:=za6 (uh Hcl) (zae hb3);have hrs3:=zbp (uh Hrs) (zae hb3)
  have HK:=zaa (zdB (λk=>k<w2.heap.size/\k≠tb) w'.heap.size cb gb tb G hG w3 hcl3 hrs3 (λk hk=>by omega) (zcX (uh Htab) (zsG _) ((uh Hbw).trans (zab hb3 hs2))) a3 c3 L hLl hit (zaU hown3) (λx hx=>by
   rcases hown3.2 with ⟨e9,-⟩ | ⟨g,cap,cur,e9,hg1,-⟩
   ·rw[hx] at e9;cases e9
   ·rw[hx] at e9;obtain rfl:x=⟨g,0,none⟩:=by simpa using (Value.slice.inj e9).1
    show g≠tb
    omega))
  have hcE:=zwU hG l;rw[<- uh HL] at hcE
  have Hfin:Hid (∀ (w4:World) (a:Option Addr) (c:Nat),w4.ownsRow w3.heap.size 57 3 (.slice a (clR G L).length c) (clR G L).length (zaF (clR G L))->Fr (λk=>k=tb) w3 w4->zdG G l w (.returned (.tuple #[.slice a (clR G L).length c,.int .i64 (clV G L)])) w4):=zaa (λw4 a c h1 h2=>by
   unfold zdG;rw[(uh HE).1,(uh HE).2,<- hcE.1,<- hcE.2]
   exact⟨a,c,rfl,zaO h1 (by omega),((uh Hbw).trans (zab hb3 hs2)).trans (zau h2 (by omega) (λk hk=>by omega))⟩)
  clear hown3 hit hcl3 hrs3 hb3;go_wp2_with fail;refine(uh HK).mono ?_;rintro e w4 ⟨a4,c4,rfl,hown4,hfr4,-⟩;have Hf:=zaa (uh Hfin w4 a4 c4 hown4 hfr4);clear hown4 hfr4 Hfin hcE HK;go_wp2;refine bodyPost_ret (v:=.tuple #[.slice a4 (clR G L).length c4,.int .i64 (clV G L)]) ?zz3 rfl (uh Hf)
  case zz3=>simp[results,Tryz.results9,go_sem]
abbrev Sl:=Option (Nat × Nat × Nat)
def slV:Sl->Value
 | none=>.slice none 0 0
 | some (g,n,c)=>.slice (some ⟨g,0,none⟩) n c
def slD:Sl->DataW Unit
 | none=>.agg [.lit (.int .i64 (-1)),.lit (.int .i64 0),.lit (.int .i64 0)]
 | some (g,n,c)=>.agg [.lit (.int .i64 (g:Int)),.lit (.int .i64 (n:Int)),.lit (.int .i64 (c:Int))]
def sliE:Value->Option (DataW Unit × List MemPlace)
 | .slice none 0 0=>some (slD none,[])
 | .slice (some ⟨g,0,none⟩) n c=>some (slD (some (g,n,c)),[])
 | _=>none
theorem zo9(s:Sl):sliE (slV s)=some (slD s,[]):=by
 cases s with
 | none=>rfl
 | some s=>obtain⟨g,n,c⟩:=s;rfl
theorem zpa{s t:Sl}(h:slD s=slD t):s=t:=by
 cases s with
 | none =>
   cases t with
   | none=>rfl
   | some t=>obtain⟨g,n,c⟩:=t;simp[slD] at h
 | some s =>
   obtain⟨g,n,c⟩:=s
   cases t with
   | none=>simp[slD] at h
   | some t=>obtain⟨g',n',c'⟩:=t;simp[slD] at h;simp;omega
theorem zr9{v:Value}{s:Sl}{ps:List MemPlace}(h:sliE v=some (slD s,ps)):v=slV s:=by
 unfold sliE at h
 split at h
 ·simp only[Option.some.injEq,Prod.mk.injEq] at h;rw[<- zpa h.1];rfl
 ·simp only[Option.some.injEq,Prod.mk.injEq] at h;rw[<- zpa h.1];rfl
 ·cases h
theorem zero27(w:World):(zeroValue 27).run Tryz.prog w=.ok (.slice none 0 0) w:=by kernel_rfl
def MpI(w:World)(b n:Nat)(A:Nat->Sl):Prop:=∃ D:DataW Unit,w.ownsMap Tryz.prog 3 sliE b n D/\(∀ q:Nat,D.atKey (ki q) (slD none)=slD (A q))/\∀ kl,Maps.has D kl=true↔∃ q:Nat,q<=1048576/\kl=ki q/\A q≠none
theorem zkh{w:World}{b n:Nat}{A:Nat->Sl}(h:MpI w b n A):b<w.heap.size:=by obtain⟨D,h,-⟩:=h;exact h.lt
theorem zg4{w w':World}{b n:Nat}{A:Nat->Sl}(h:MpI w b n A)(e:w'.heap[b]? = w.heap[b]?):MpI w' b n A:=by
 obtain⟨D,⟨es,c,hh,rr⟩,h2⟩:=h;exact⟨D,⟨es,c,e.trans hh,rr⟩,h2⟩
theorem zbr{w:World}{b n:Nat}{A:Nat->Sl}(h:MpI w b n A){cs:Array Value}{t:TypeId}{f:Nat × Nat}:w.heap[b]?≠some (.cells cs t f):=by
 obtain⟨D,⟨es,c,hh,rr⟩,h2⟩:=h;rw[hh];intro e;cases e
theorem zgy{w:World}{b n:Nat}{A:Nat->Sl}(h:MpI w b n A)(q:Nat)(hq:q<=1048576):(Instr.lookup 78 (.map (some b)) (.int .i64 (q:Int)) false).run Tryz.prog w=.ok (slV (A q)) w:=by
 obtain⟨D,h1,h2,-⟩:=h;have hwf:(Lit.int .i64 (q:Int)).wf=true:=WalkArith.wf_i64 (by omega);obtain⟨v,ps,hrun,hv⟩:=h1.lookup zkp Tryz.underlying78 (zero27 w) (zo9 none) (keyOf_int_mk Tryz.underlying3 hwf);rw[hrun];have:=h2 q;rw[show D.atKey (Lit.int .i64 (q:Int)) (slD none)=_ from this] at hv;rw[zr9 hv]
theorem zvU{w:World}{b n:Nat}{A:Nat->Sl}(h:MpI w b n A)(hn:n<maxLen)(q:Nat)(hq:q<=1048576)(s:Nat × Nat × Nat):∃ w',(Instr.mapUpdate 78 (.map (some b)) (.int .i64 (q:Int)) (slV (some s))).run Tryz.prog w=.ok () w'/\MpI w' b (n+1) (λr=>if r=q then some s else A r)/\w.grownBy w' (some b):=by
 obtain⟨D,h1,h2,h3⟩:=h;have hwf:(Lit.int .i64 (q:Int)).wf=true:=WalkArith.wf_i64 (by omega);obtain⟨w',hrun,hown,hg⟩:=h1.update zkp Tryz.underlying78 hn (keyOf_int_mk Tryz.underlying3 hwf) (zo9 (some s));refine⟨w',hrun,⟨_,hown,λr=>?_,λkl=>?_⟩,hg⟩
 ·show _=slD (if r=q then some s else A r);by_cases e:r=q
  ·subst e;rw[if_pos rfl];exact atKey_put_same h1.isMap (show WideAt.IsKeyLit (ki r) from trivial) _ _
  ·rw[if_neg e];exact(atKey_put_other (λe'=>by simp at e';omega) _ _).trans (h2 r)
 ·by_cases e:kl=ki q
  ·rw[e];exact⟨λ_=>⟨q,hq,rfl,by simp⟩,λ_=>has_put_same h1.isMap (show WideAt.IsKeyLit (ki q) from trivial) _⟩
  ·rw[has_put_other e,h3 kl];constructor
   ·rintro⟨r,e0,e1,e2⟩;have e3:r≠q:=λe3=>e (by rw[e1,e3]);exact⟨r,e0,e1,by simp only[if_neg e3];exact e2⟩
   ·rintro⟨r,e0,e1,e2⟩;have e3:r≠q:=λe3=>e (by rw[e1,e3]);simp only[if_neg e3] at e2;exact⟨r,e0,e1,e2⟩
theorem zvV(w:World):MpI (w.alloc (.map #[] 0)) w.heap.size 0 (λ_=>none):=⟨.map [],World.ownsMap_made _ _ _ _,λ_=>rfl,λkl=>⟨λh=>by simp[Maps.has] at h,fun⟨q,_,_,h⟩=>absurd rfl h⟩⟩
def zby(G:Gm)(l:List It)(y:Nat):List It:=(l.filter λx=>decide (zdn G x=some (y:Int))).map λx=>(x.1,x.2.1+1,x.2.2)
theorem zdV(G:Gm)(l:List It)(x:It)(y:Nat):zby G (l ++ [x]) y=if zdn G x=some (y:Int) then zby G l y ++ [(x.1,x.2.1+1,x.2.2)] else zby G l y:=by
 unfold zby;rw[List.filter_append,List.map_append];by_cases h:zdn G x=some (y:Int)
 ·rw[if_pos h];simp[h]
 ·rw[if_neg h];simp[h]
theorem zgz(G:Gm)(l:List It)(y:Nat):(zby G l y).length<=l.length:=by
 unfold zby;rw[List.length_map];exact List.length_filter_le _ _
def zlc(ls:List (List It)):Nat:=(ls.map List.length).sum
theorem zjR(ls:List (List It))(l:List It):zlc (ls ++ [l])=zlc ls+l.length:=by unfold zlc;simp
def znS(l:List It):Prop:=0<l.length/\l.length<=65536
def zno(ls:List (List It)):Prop:=(0<ls.length/\ls.length<=4096)/\(∀ j,j<ls.length->znS (ls.getD j []))/\zlc ls<=1048576
theorem zkx(a:Option Addr)(c:Nat)(ls:List (List It))(hl:ls.length<=281474976710656)(w:World)(h:zez w.heap.size w a ls) :
 Calls Tryz.prog 93 #[.slice a ls.length c] w λe w'=>(∃ r:Bool,e=.returned (.bool r)/\(r=true↔zno ls))/\Below w.heap.size w w':=by
 have H:=zaa h;clear h;by_cases h0:ls.length=0
 ·have h0I:(((ls.length:Nat):Int) == 0)=true:=by rw[h0];rfl
  have hno:¬ zno ls:=λh=>by have:=h.1.1;omega
  go_enter Tryz.func93,Tryz.ntmps93;go_wp2;refine bodyPost_ret (v:=.bool false) ?zz1 rfl ?zz2
  case zz1=>simp[results,Tryz.results93,go_sem]
  case zz2=>exact⟨⟨false,rfl,⟨(λh=>absurd h (by decide)),λh=>absurd h hno⟩⟩,zsY _ _⟩
 ·have h0I:(((ls.length:Nat):Int) == 0)=false:=by simpa using h0
  by_cases h4:4096<ls.length
  ·have h4I:(4096:Int)<(ls.length:Int):=by omega
   have hno:¬ zno ls:=λh=>by have:=h.1.2;omega
   go_enter Tryz.func93,Tryz.ntmps93;go_wp2;refine bodyPost_ret (v:=.bool false) ?zz3 rfl ?zz4
   case zz3=>simp[results,Tryz.results93,go_sem]
   case zz4=>exact⟨⟨false,rfl,⟨(λh=>absurd h (by decide)),λh=>absurd h hno⟩⟩,zsY _ _⟩
  ·have h4I:¬ (4096:Int)<(ls.length:Int):=by omega
   go_enter Tryz.func93,Tryz.ntmps93;go_wp2_with fail
   go_loopw [3,16] (λv x wr=>∃ k:Nat,v=.int .i64 (zlc (ls.take k):Nat)/\x=.int .i64 (k:Int)/\k<=ls.length/\(∀ j,j<k->znS (ls.getD j []))/\zlc (ls.take k)<=k * 65536/\Below w.heap.size w wr) (λ_ x _=>ls.length - (intOf x).toNat)
   case atStart=>exact⟨0,rfl,rfl,zsK _,λj hj=>absurd hj (Nat.not_lt_zero _),by simp[zlc],zsY _ _⟩
   case round =>
    obtain⟨k,rfl,rfl,hk,hok,hsum,hb⟩:=hrel;have hsz:=hb.size;have Hok:=zaa hok;have Hb:=zaa hb;clear hok hb;by_cases hlt:k<ls.length
    ·have hlt':(k:Int)<(ls.length:Int):=by omega
     obtain⟨b,off,ia,ic,rfl,hbl,q0,-,-⟩:=zb6 (za3 (uh Hb) (uh H)) hlt;have hsn:zlc (ls.take (k+1))=zlc (ls.take k)+(ls.getD k []).length:=by
      rw[zsU,zsF hlt,zsE,zsF hlt];exact zjR _ _
     have Hnx:Hid (znS (ls.getD k [])->∀ j,j<k+1->znS (ls.getD j [])):=zaa (λh9 j hj=>by
      by_cases e:j=k
      ·rw[e];exact h9
      ·exact uh Hok j (by omega))
     have Hno:Hid (¬ znS (ls.getD k [])->¬ zno ls):=zaa (λh9 hr=>h9 (hr.2.1 k hlt));unfold znS at Hnx Hno;generalize (ls.getD k []).length=n at *;generalize zlc (ls.take k)=S at *;by_cases hn0:n=0
     ·have hnI:(((n:Nat):Int) == 0)=true:=by rw[hn0];rfl
      have Hf:=zaa (uh Hno (λh=>by omega));clear Hnx Hno;go_wp2;refine bodyPost_ret (v:=.bool false) ?zz5 rfl ?zz6
      case zz5=>simp[results,Tryz.results93,go_sem]
      case zz6=>exact⟨⟨false,rfl,⟨(λh=>absurd h (by decide)),λh=>absurd h (uh Hf)⟩⟩,uh Hb⟩
     ·have hnI:(((n:Nat):Int) == 0)=false:=by simpa using hn0
      by_cases hn6:65536<n
      ·have hn6I:(65536:Int)<(n:Int):=by omega
       have Hf:=zaa (uh Hno (λh=>by omega));clear Hnx Hno;go_wp2;refine bodyPost_ret (v:=.bool false) ?zz7 rfl ?zz8
       case zz7=>simp[results,Tryz.results93,go_sem]
       case zz8=>exact⟨⟨false,rfl,⟨(λh=>absurd h (by decide)),λh=>absurd h (uh Hf)⟩⟩,uh Hb⟩
      ·have hn6I:¬ (65536:Int)<(n:Int):=by omega
       have Hf:=zaa (uh Hnx ⟨by omega,by omega⟩);have hws:IntKind.i64.wrap ((S:Int)+(n:Int))=(S:Int)+(n:Int):=by rw[IntKind.wrap_i64];omega
       have Hs:=zaa hsn;clear Hnx Hno hsn;go_wp2;go_roundw
       case rel=>exact⟨k+1,by rw[uh Hs];simp,by go_num,by omega,uh Hf,by rw[uh Hs];omega,uh Hb⟩
       case measure=>simp[intOf];omega
    ·have hlt':¬ (k:Int)<(ls.length:Int):=by omega
     obtain rfl:k=ls.length:=by omega
     rw[zsN] at hsum ⊢;by_cases hr:zlc ls<=1048576
     ·have hrI:((zlc ls:Nat):Int)<=1048576:=by omega
      have hRm:zno ls:=⟨⟨by omega,by omega⟩,uh Hok,hr⟩;have Hf:Hid (∃ r:Bool,r=true/\(r=true↔zno ls)):=zaa ⟨true,rfl,⟨λ_=>hRm,λ_=>rfl⟩⟩;clear hRm;go_wp2;refine bodyPost_ret (v:=.bool true) ?zz9 rfl ?zz10
      case zz9=>simp[results,Tryz.results93,go_sem]
      case zz10 =>
       obtain⟨r,rfl,h9⟩:=uh Hf;exact⟨.inr ⟨rfl,h9.1 rfl⟩,uh Hb⟩
     ·have hrI:¬ ((zlc ls:Nat):Int)<=1048576:=by omega
      have Hf:Hid (¬ zno ls):=zaa (λh=>hr h.2.2);go_wp2;refine bodyPost_ret (v:=.bool false) ?zz11 rfl ?zz12
      case zz11=>simp[results,Tryz.results93,go_sem]
      case zz12=>exact⟨.inl ⟨rfl,uh Hf⟩,uh Hb⟩
open Go.Sort
def riTo(l:List It)(k:Nat):Prop:=∀ i,i+1<k->ltI (l.getD i it0) (l.getD (i+1) it0)
theorem zk7:∀ {l:List It},riTo l l.length->UpI l
 | [],_=>List.Pairwise.nil
 | [x],_=>List.pairwise_singleton _ _
 | x::y::l,h=>by
   have h1:UpI (y::l):=zk7 (λi hi=>by
    have:=h (i+1) (by simp at hi ⊢;omega)
    simpa using this)
   have hxy:ltI x y:=by simpa using h 0 (by simp)
   refine List.Pairwise.cons (λz hz=>?_) h1;rcases List.mem_cons.1 hz with rfl | hz
   ·exact hxy
   ·exact zcc hxy (List.rel_of_pairwise_cons h1 hz)
theorem cmpI_ge{x y:It}:(0<=zdN x y)↔¬ ltI x y:=by
 have h:=zc6 x y;unfold ltOf at h;constructor
 ·intro h1 h2;rw[decide_eq_true h2] at h;have:=of_decide_eq_true h;omega
 ·intro h1;rw[decide_eq_false h1] at h;have:=of_decide_eq_false h;omega
theorem zpl(a:Option Addr)(c:Nat)(l:List It)(hl:l.length<=281474976710656)(w:World)(h:zcE w.heap.size w a l) :
 Calls Tryz.prog 96 #[.slice a l.length c] w λe w'=>(∃ r:Bool,e=.returned (.bool r)/\(r=true↔UpI l))/\Below w.heap.size w w':=by
 have H:=zaa h;clear h;go_enter Tryz.func96,Tryz.ntmps96;go_wp2_with fail
 go_loopw [3] (λx wr=>∃ k:Nat,x=.int .i64 (k:Int)/\1<=k/\(k<=l.length\/k=1)/\riTo l k/\Below w.heap.size w wr) (λx _=>l.length+1 - (intOf x).toNat)
 case atStart=>exact⟨1,rfl,zsG _,.inr rfl,λi hi=>by omega,zsY _ _⟩
 case round =>
  obtain⟨k,rfl,hk1,hk,hri,hb⟩:=hrel;have hsz:=hb.size;have Hri:=zaa hri;have Hb:=zaa hb;clear hri hb;by_cases hlt:k<l.length
  ·obtain⟨k',rfl⟩:∃ k',k=k'+1:=⟨k - 1,by omega⟩;have hlt':(k':Int)+1<(l.length:Int):=by omega
   obtain⟨b,off,rfl,hbl,p0,p1,p2⟩:=zb3 (zaw (uh Hb) (uh H)) (k:=k') (by omega);obtain⟨b',off',e',-,q0,q1,q2⟩:=zb3 (zaw (uh Hb) (uh H)) hlt;obtain⟨rfl,rfl⟩:b=b'/\off=off':=by simpa using e'
   have hw1:IntKind.i64.wrap ((k':Int))=(k':Int):=by rw[IntKind.wrap_i64];omega
   have hw2:IntKind.i64.wrap ((k':Int)+1 - 1)=(k':Int):=by rw[IntKind.wrap_i64];omega
   have hge2:(0:Int)<=(k':Int)+1:=by omega
   have hlt1:(k':Int)<(l.length:Int):=by omega
   have hge1:0<=(k':Int):=by omega
   have Hx1:=zaa (show l.getD k' it0=l.getD k' it0 from rfl)
   have HC:Hid (∀ (x y:It) (W:World),Calls Tryz.prog 72 #[.agg #[.int .i64 x.1,.int .i64 x.2.1,.int .i64 x.2.2],.agg #[.int .i64 y.1,.int .i64 y.2.1,.int .i64 y.2.2]] W λe w'=>e=.returned (.int .i64 (zdN x y))/\Below W.heap.size W w'):=zaa (λx y W=>(zjr x y W).mono (by
    rintro e w' ⟨h1,q,os,rfl⟩
    exact⟨h1,⟨rfl,rfl,rfl,by show W.heap.size<=(W.heap ++ os).size;rw[Array.size_append];omega,λj hj=>heap_grow_old (W.drewN q) os hj⟩⟩))
   have Hnx:Hid (ltI (l.getD k' it0) (l.getD (k'+1) it0)->riTo l (k'+1+1)):=zaa (λh9 i hi=>by
    by_cases e:i=k'
    ·subst e;simpa using h9
    ·exact uh Hri i (by omega))
   have Hno:Hid (¬ ltI (l.getD k' it0) (l.getD (k'+1) it0)->¬ UpI l):=zaa (λh9 hu=>h9 (ziG hu (by omega) hlt));clear Hx1;generalize l.getD k' it0=x at *;generalize l.getD (k'+1) it0=y at *;have HCc:=zaa (uh HC x y);generalize hcv:zdN x y=cv at *;have hbw:b<wr.heap.size:=by omega
   have HK:Hid (∀ W:World,Below wr.heap.size wr W->W.cell? ⟨b,off+k' * 3,none⟩=some (.int .i64 x.1)/\W.cell? ⟨b,off+k' * 3+1,none⟩=some (.int .i64 x.2.1)/\W.cell? ⟨b,off+k' * 3+2,none⟩=some (.int .i64 x.2.2)/\W.cell? ⟨b,off+(k'+1) * 3,none⟩=some (.int .i64 y.1)/\W.cell? ⟨b,off+(k'+1) * 3+1,none⟩=some (.int .i64 y.2.1)/\W.cell? ⟨b,off+(k'+1) * 3+2,none⟩=some (.int .i64 y.2.2)):=zaa (λW hb=>⟨(hb.cell (p:=⟨b,off+k' * 3,none⟩) hbw).trans p0,(hb.cell (p:=⟨b,off+k' * 3+1,none⟩) hbw).trans p1,(hb.cell (p:=⟨b,off+k' * 3+2,none⟩) hbw).trans p2,(hb.cell (p:=⟨b,off+(k'+1) * 3,none⟩) hbw).trans q0,(hb.cell (p:=⟨b,off+(k'+1) * 3+1,none⟩) hbw).trans q1,(hb.cell (p:=⟨b,off+(k'+1) * 3+2,none⟩) hbw).trans q2⟩);by_cases hge:0<=cv
   ·have Hf:=zaa (uh Hno (cmpI_ge.1 (by rw[hcv];exact hge)));clear Hnx Hno HC;go_wp2_with fail
    go_region_held3 (λW:World=>W.cell? ⟨b,off+k' * 3,none⟩=some (.int .i64 x.1)/\W.cell? ⟨b,off+k' * 3+1,none⟩=some (.int .i64 x.2.1)/\W.cell? ⟨b,off+k' * 3+2,none⟩=some (.int .i64 x.2.2)/\W.cell? ⟨b,off+(k'+1) * 3,none⟩=some (.int .i64 y.1)/\W.cell? ⟨b,off+(k'+1) * 3+1,none⟩=some (.int .i64 y.2.1)/\W.cell? ⟨b,off+(k'+1) * 3+2,none⟩=some (.int .i64 y.2.2))
     (first | exact⟨p0,p1,p2,q0,q1,q2⟩ | exact uh HK _ hS | fail)
     (first | (go_at_call 72;refine(uh HCc _).mono ?_;rintro e W2 ⟨rfl,hb2⟩;have hS:Below wr.heap.size wr W2:=⟨hb2.os,hb2.tape,hb2.output,hb2.size,hb2.block⟩;have Hb3:=zaa ((uh Hb).trans (zab hS hsz))) | fail)
    go_wp2;refine bodyPost_ret (v:=.bool false) ?zz1 rfl ⟨⟨false,rfl,⟨(λh=>absurd h (by decide)),λh=>absurd h (uh Hf)⟩⟩,uh Hb3⟩
    case zz1=>simp[results,Tryz.results96,go_sem]
   ·have Hf:=zaa (uh Hnx (Classical.not_not.1 (λh=>hge (by rw[<- hcv];exact cmpI_ge.2 h))));clear Hnx Hno HC;go_wp2_with fail
    go_region_held3 (λW:World=>W.cell? ⟨b,off+k' * 3,none⟩=some (.int .i64 x.1)/\W.cell? ⟨b,off+k' * 3+1,none⟩=some (.int .i64 x.2.1)/\W.cell? ⟨b,off+k' * 3+2,none⟩=some (.int .i64 x.2.2)/\W.cell? ⟨b,off+(k'+1) * 3,none⟩=some (.int .i64 y.1)/\W.cell? ⟨b,off+(k'+1) * 3+1,none⟩=some (.int .i64 y.2.1)/\W.cell? ⟨b,off+(k'+1) * 3+2,none⟩=some (.int .i64 y.2.2))
     (first | exact⟨p0,p1,p2,q0,q1,q2⟩ | exact uh HK _ hS | fail)
     (first | (go_at_call 72;refine(uh HCc _).mono ?_;rintro e W2 ⟨rfl,hb2⟩;have hS:Below wr.heap.size wr W2:=⟨hb2.os,hb2.tape,hb2.output,hb2.size,hb2.block⟩;have Hb3:=zaa ((uh Hb).trans (zab hS hsz))) | fail)
    go_wp2;go_roundw
    case rel=>exact⟨k'+1+1,by go_num,by omega,.inl (by omega),uh Hf,uh Hb3⟩
    case measure=>simp[intOf];omega
  ·have hlt':¬ (k:Int)<(l.length:Int):=by omega
   have hu:UpI l:=by
    rcases hk with hk | hk
    ·obtain rfl:k=l.length:=by omega
     exact zk7 (uh Hri)
    ·exact zk7 (λi hi=>by omega)
   go_wp2;refine bodyPost_ret (v:=.bool true) ?zz2 rfl ⟨rfl,uh Hb⟩
   case zz2=>simp[results,Tryz.results96,go_sem]
theorem cmpB(x y:It)(W:World):Calls Tryz.prog 72 #[.agg #[.int .i64 x.1,.int .i64 x.2.1,.int .i64 x.2.2],.agg #[.int .i64 y.1,.int .i64 y.2.1,.int .i64 y.2.2]] W λe w'=>e=.returned (.int .i64 (zdN x y))/\Below W.heap.size W w' :=
 (zjr x y W).mono (by
  rintro e w' ⟨h1,q,os,rfl⟩
  exact⟨h1,⟨rfl,rfl,rfl,by show W.heap.size<=(W.heap ++ os).size;rw[Array.size_append];omega,λj hj=>heap_grow_old (W.drewN q) os hj⟩⟩)
theorem cmpI_neg{x y:It}:(zdN x y<0)↔ltI x y:=by
 have:=@cmpI_ge x y;constructor
 ·intro h;exact Classical.not_not.1 (λhn=>by have:=this.2 hn;omega)
 ·intro h;have:¬ 0<=zdN x y:=λh2=>this.1 h2 h;omega
theorem zq3(x y:It):(zdN x y=0)↔x=y:=by
 constructor
 ·intro h;have h1:=zc6 x y;have h2:=zc6 y x;have n1:¬ ltI x y:=λhl=>by have:=cmpI_neg.2 hl;omega
  rcases zg6 x y with k | k | k
  ·exact absurd k n1
  ·exact k
  ·exfalso;obtain⟨x0,x1,x2⟩:=x;obtain⟨y0,y1,y2⟩:=y;unfold zdN orI Lib.compareInt at h;unfold ltI at k;simp only at h k
   split at h <;> (try split at h) <;> (try split at h) <;> (try split at h) <;> (try split at h) <;> (try split at h) <;> omega
 ·rintro rfl;unfold zdN orI Lib.compareInt;simp
theorem zw9(a:Option Addr)(c:Nat)(l:List It)(hl:l.length<=281474976710656)(hup:UpI l)(x:It)(w:World)(h:zcE w.heap.size w a l) :
 Calls Tryz.prog 140 #[.slice a l.length c,.agg #[.int .i64 x.1,.int .i64 x.2.1,.int .i64 x.2.2],.func (.func 72) #[] #[]] w λe w'=>∃ i:Int,e=.returned (.tuple #[.int .i64 i,.bool (decide (x ∈ l))])/\Below w.heap.size w w':=by
 have H:=zaa h;have Hup:=zaa hup;clear h hup;have eg:∀ args w,(callFunc 72 args).run Tryz.prog w=.ok (.enter 72 args) w:=enters_of Tryz.func72 (by kernel_rfl) rfl;go_enter Tryz.func140,Tryz.ntmps140;go_wp2_with fail;obtain⟨W1,hW1⟩:∃ W1,W1=w.alloc (.cells #[.int .i64 x.1,.int .i64 x.2.1,.int .i64 x.2.2] 57):=⟨_,rfl⟩;have hb1:Below w.heap.size w W1:=by rw[hW1];exact(zsY _ _).alloc (zsG _) _
 have hx1:W1.heap[w.heap.size]? = some (.cells #[.int .i64 x.1,.int .i64 x.2.1,.int .i64 x.2.2] 57 (0,0)):=by rw[hW1];exact zsH _ _
 have hs1:=hb1.size;have hlt1:=(zsO.1 hx1).1;rw[<- hW1];have H1:=zaa (zaD (zaw hb1 (uh H)) hs1);have Hb1:=zaa hb1;have Hx1:=zaa hx1;clear hW1 hb1 hx1 H
 go_loopw [9,10] (λu v wr=>∃ lo hi:Nat,u=.int .i64 (lo:Int)/\v=.int .i64 (hi:Int)/\lo<=hi/\hi<=l.length/\(∀ j,j<lo->ltI (l.getD j it0) x)/\(∀ j,hi<=j->j<l.length->¬ ltI (l.getD j it0) x)/\Below W1.heap.size W1 wr) (λu v _=>(intOf v).toNat - (intOf u).toNat)
 case atStart=>exact⟨0,l.length,rfl,rfl,zsK _,zsG _,λj hj=>absurd hj (Nat.not_lt_zero _),λj h1 h2=>by omega,zsY _ _⟩
 case round =>
  obtain⟨lo,hi,rfl,rfl,hlh,hin,hA,hB,hb⟩:=hrel;have hsz:=hb.size;have HA:=zaa hA;have HB:=zaa hB;have Hb:=zaa hb;clear hA hB hb;by_cases hlt:lo<hi
  ·have hlt':(lo:Int)<(hi:Int):=by omega
   go_wp2_with fail;have hmI:((lo:Int)+(hi:Int)) / 2=(((lo+hi) / 2:Nat):Int):=by omega
   rw[hmI];clear hmI;have hm1:lo<=(lo+hi) / 2:=by omega
   have hm2:(lo+hi) / 2<hi:=by omega
   generalize (lo+hi) / 2=m at *;have hml:(m:Int)<(l.length:Int):=by omega
   have hmw:IntKind.i64.wrap ((m:Int)+1)=(m:Int)+1:=by rw[IntKind.wrap_i64];omega
   obtain⟨b,off,rfl,hbl,p0,p1,p2⟩:=zb3 (zaw (uh Hb) (uh H1)) (k:=m) (by omega);have hxw:=((uh Hb).block _ hlt1).trans (uh Hx1);have z0:=zac hxw 0 rfl;have z1:=zac hxw 1 rfl;have z2:=zac hxw 2 rfl;have hbw:b<wr.heap.size:=by omega
   have hww:w.heap.size<wr.heap.size:=by omega
   have HCc:=zaa (cmpB (l.getD m it0) x)
   have Hlo:Hid (ltI (l.getD m it0) x->∀ j,j<m+1->ltI (l.getD j it0) x):=zaa (λh9 j hj=>by
    by_cases e:j=m
    ·rw[e];exact h9
    ·exact zcc (ziG (uh Hup) (show j<m by omega) (by omega)) h9)
   have Hhi:Hid (¬ ltI (l.getD m it0) x->∀ j,m<=j->j<l.length->¬ ltI (l.getD j it0) x):=zaa (λh9 j hj hjl h8=>by
    by_cases e:j=m
    ·rw[e] at h8;exact h9 h8
    ·exact h9 (zcc (ziG (uh Hup) (show m<j by omega) hjl) h8))
   have Hng:=zaa (@cmpI_neg (l.getD m it0) x);clear hxw;generalize l.getD m it0=y at *;generalize zdN y x=cv at *;have HK:Hid (∀ W:World,Below wr.heap.size wr W->W.cell? ⟨b,off+m * 3,none⟩=some (.int .i64 y.1)/\W.cell? ⟨b,off+m * 3+1,none⟩=some (.int .i64 y.2.1)/\W.cell? ⟨b,off+m * 3+2,none⟩=some (.int .i64 y.2.2)/\W.cell? ⟨w.heap.size,0,none⟩=some (.int .i64 x.1)/\W.cell? ⟨w.heap.size,1,none⟩=some (.int .i64 x.2.1)/\W.cell? ⟨w.heap.size,2,none⟩=some (.int .i64 x.2.2)):=zaa (λW hb=>⟨(hb.cell (p:=⟨b,off+m * 3,none⟩) hbw).trans p0,(hb.cell (p:=⟨b,off+m * 3+1,none⟩) hbw).trans p1,(hb.cell (p:=⟨b,off+m * 3+2,none⟩) hbw).trans p2,(hb.cell (p:=⟨w.heap.size,0,none⟩) hww).trans z0,(hb.cell (p:=⟨w.heap.size,1,none⟩) hww).trans z1,(hb.cell (p:=⟨w.heap.size,2,none⟩) hww).trans z2⟩);by_cases hc:cv<0
   ·have Hf:=zaa (uh Hlo ((uh Hng).1 hc));clear Hlo Hhi Hng
    go_region_held3 (λW:World=>W.cell? ⟨b,off+m * 3,none⟩=some (.int .i64 y.1)/\W.cell? ⟨b,off+m * 3+1,none⟩=some (.int .i64 y.2.1)/\W.cell? ⟨b,off+m * 3+2,none⟩=some (.int .i64 y.2.2)/\W.cell? ⟨w.heap.size,0,none⟩=some (.int .i64 x.1)/\W.cell? ⟨w.heap.size,1,none⟩=some (.int .i64 x.2.1)/\W.cell? ⟨w.heap.size,2,none⟩=some (.int .i64 x.2.2))
     (first | exact⟨p0,p1,p2,z0,z1,z2⟩ | exact uh HK _ hS | fail)
     (first | (go_at_fn 72;refine(uh HCc _).mono ?_;rintro e W2 ⟨rfl,hb2⟩;have hS:Below wr.heap.size wr W2:=⟨hb2.os,hb2.tape,hb2.output,hb2.size,hb2.block⟩;have Hb3:=zaa ((uh Hb).trans (zab hS hsz))) | fail)
    go_wp2;go_roundw
    case rel=>exact⟨m+1,hi,by go_num,rfl,by omega,hin,uh Hf,uh HB,uh Hb3⟩
    case measure=>simp[intOf];omega
   ·have Hf:=zaa (uh Hhi (λh=>hc ((uh Hng).2 h)));clear Hlo Hhi Hng
    go_region_held3 (λW:World=>W.cell? ⟨b,off+m * 3,none⟩=some (.int .i64 y.1)/\W.cell? ⟨b,off+m * 3+1,none⟩=some (.int .i64 y.2.1)/\W.cell? ⟨b,off+m * 3+2,none⟩=some (.int .i64 y.2.2)/\W.cell? ⟨w.heap.size,0,none⟩=some (.int .i64 x.1)/\W.cell? ⟨w.heap.size,1,none⟩=some (.int .i64 x.2.1)/\W.cell? ⟨w.heap.size,2,none⟩=some (.int .i64 x.2.2))
     (first | exact⟨p0,p1,p2,z0,z1,z2⟩ | exact uh HK _ hS | fail)
     (first | (go_at_fn 72;refine(uh HCc _).mono ?_;rintro e W2 ⟨rfl,hb2⟩;have hS:Below wr.heap.size wr W2:=⟨hb2.os,hb2.tape,hb2.output,hb2.size,hb2.block⟩;have Hb3:=zaa ((uh Hb).trans (zab hS hsz))) | fail)
    go_wp2;go_roundw
    case rel=>exact⟨lo,m,rfl,rfl,hm1,by omega,uh HA,uh Hf,uh Hb3⟩
    case measure=>simp[intOf];omega
  ·have hlt':¬ (lo:Int)<(hi:Int):=by omega
   obtain rfl:lo=hi:=by omega
   by_cases hll:lo<l.length
   ·have hll':(lo:Int)<(l.length:Int):=by omega
    obtain⟨b,off,rfl,hbl,p0,p1,p2⟩:=zb3 (zaw (uh Hb) (uh H1)) (k:=lo) (by omega);have hxw:=((uh Hb).block _ hlt1).trans (uh Hx1);have z0:=zac hxw 0 rfl;have z1:=zac hxw 1 rfl;have z2:=zac hxw 2 rfl;have hbw:b<wr.heap.size:=by omega
    have hww:w.heap.size<wr.heap.size:=by omega
    have HCc:=zaa (cmpB (l.getD lo it0) x)
    have Hmem:Hid (decide (x ∈ l)=decide (l.getD lo it0=x)):=zaa (decide_eq_decide.2 ⟨λhx=>by
     obtain⟨i,hi,rfl⟩:=zsT.1 hx;have e:l.getD i it0=l[i]:=by rw[zsE,zsF hi];rfl
     have h1:lo<=i:=Nat.le_of_not_lt (λh9=>zeQ _ (by have:=uh HA i h9;rw[e] at this;exact this));have h2:¬ lo<i:=λh9=>uh HB lo (zsG _) hll (by rw[<- e];exact ziG (uh Hup) h9 hi);obtain rfl:i=lo:=by omega
     exact e,λh9=>by rw[<- h9];exact zdf hll⟩)
    have Hz:=zaa (zq3 (l.getD lo it0) x);clear hxw;generalize l.getD lo it0=y at *;generalize zdN y x=cv at *;have HK:Hid (∀ W:World,Below wr.heap.size wr W->W.cell? ⟨b,off+lo * 3,none⟩=some (.int .i64 y.1)/\W.cell? ⟨b,off+lo * 3+1,none⟩=some (.int .i64 y.2.1)/\W.cell? ⟨b,off+lo * 3+2,none⟩=some (.int .i64 y.2.2)/\W.cell? ⟨w.heap.size,0,none⟩=some (.int .i64 x.1)/\W.cell? ⟨w.heap.size,1,none⟩=some (.int .i64 x.2.1)/\W.cell? ⟨w.heap.size,2,none⟩=some (.int .i64 x.2.2)):=zaa (λW hb=>⟨(hb.cell (p:=⟨b,off+lo * 3,none⟩) hbw).trans p0,(hb.cell (p:=⟨b,off+lo * 3+1,none⟩) hbw).trans p1,(hb.cell (p:=⟨b,off+lo * 3+2,none⟩) hbw).trans p2,(hb.cell (p:=⟨w.heap.size,0,none⟩) hww).trans z0,(hb.cell (p:=⟨w.heap.size,1,none⟩) hww).trans z1,(hb.cell (p:=⟨w.heap.size,2,none⟩) hww).trans z2⟩);by_cases hc:cv=0
    ·have hcI:(cv == 0)=true:=by rw[hc];rfl
     have HMt:Hid (decide (x ∈ l)=true):=zaa (by rw[uh Hmem,decide_eq_true_eq];exact(uh Hz).1 hc);clear hc Hmem Hz;go_wp2_with fail
     go_region_held3 (λW:World=>W.cell? ⟨b,off+lo * 3,none⟩=some (.int .i64 y.1)/\W.cell? ⟨b,off+lo * 3+1,none⟩=some (.int .i64 y.2.1)/\W.cell? ⟨b,off+lo * 3+2,none⟩=some (.int .i64 y.2.2)/\W.cell? ⟨w.heap.size,0,none⟩=some (.int .i64 x.1)/\W.cell? ⟨w.heap.size,1,none⟩=some (.int .i64 x.2.1)/\W.cell? ⟨w.heap.size,2,none⟩=some (.int .i64 x.2.2))
      (first | exact⟨p0,p1,p2,z0,z1,z2⟩ | exact uh HK _ hS | fail)
      (first | (go_at_fn 72;refine(uh HCc _).mono ?_;rintro e W2 ⟨rfl,hb2⟩;have hS:Below wr.heap.size wr W2:=⟨hb2.os,hb2.tape,hb2.output,hb2.size,hb2.block⟩;have Hb3:=zaa ((uh Hb).trans (zab hS hsz))) | fail)
     go_wp2;refine bodyPost_ret (v:=.tuple #[.int .i64 lo,.bool true]) ?zz1 rfl ⟨lo,by rw[uh HMt],(uh Hb1).trans (zab (uh Hb3) hs1)⟩
     case zz1=>simp[results,Tryz.results140,go_sem]
    ·have hcI:(cv == 0)=false:=by simpa using hc
     have HMt:Hid (decide (x ∈ l)=false):=zaa (by rw[uh Hmem,decide_eq_false_iff_not];exact λh=>hc ((uh Hz).2 h));clear hc Hmem Hz;go_wp2_with fail
     go_region_held3 (λW:World=>W.cell? ⟨b,off+lo * 3,none⟩=some (.int .i64 y.1)/\W.cell? ⟨b,off+lo * 3+1,none⟩=some (.int .i64 y.2.1)/\W.cell? ⟨b,off+lo * 3+2,none⟩=some (.int .i64 y.2.2)/\W.cell? ⟨w.heap.size,0,none⟩=some (.int .i64 x.1)/\W.cell? ⟨w.heap.size,1,none⟩=some (.int .i64 x.2.1)/\W.cell? ⟨w.heap.size,2,none⟩=some (.int .i64 x.2.2))
      (first | exact⟨p0,p1,p2,z0,z1,z2⟩ | exact uh HK _ hS | fail)
      (first | (go_at_fn 72;refine(uh HCc _).mono ?_;rintro e W2 ⟨rfl,hb2⟩;have hS:Below wr.heap.size wr W2:=⟨hb2.os,hb2.tape,hb2.output,hb2.size,hb2.block⟩;have Hb3:=zaa ((uh Hb).trans (zab hS hsz))) | fail)
     go_wp2;refine bodyPost_ret (v:=.tuple #[.int .i64 lo,.bool false]) ?zz2 rfl ⟨lo,by rw[uh HMt],(uh Hb1).trans (zab (uh Hb3) hs1)⟩
     case zz2=>simp[results,Tryz.results140,go_sem]
   ·have hll':¬ (lo:Int)<(l.length:Int):=by omega
    have HMt:=zaa (show decide (x ∈ l)=false from decide_eq_false (λhx=>by
     obtain⟨i,hi,rfl⟩:=zsT.1 hx;have e:l.getD i it0=l[i]:=by rw[zsE,zsF hi];rfl
     have:=uh HA i (by omega);rw[e] at this
     exact zeQ _ this))
    go_wp2_with fail;go_quiet (fail);go_wp2;refine bodyPost_ret (v:=.tuple #[.int .i64 lo,.bool false]) ?zz3 rfl ⟨lo,by rw[uh HMt],zaq ((uh Hb1).trans (zab (uh Hb) hs1)) _⟩
    case zz3=>simp[results,Tryz.results140,go_sem]
theorem zky(a:Option Addr)(c:Nat)(l:List It)(hl:l.length<=281474976710656)(hup:UpI l)(x:It)(w:World)(h:zcE w.heap.size w a l) :
 Calls Tryz.prog 97 #[.slice a l.length c,.agg #[.int .i64 x.1,.int .i64 x.2.1,.int .i64 x.2.2]] w λe w'=>e=.returned (.bool (decide (x ∈ l)))/\Below w.heap.size w w':=by
 have HB:=zaa (λ(W:World) (hb:Below w.heap.size w W)=>zw9 a c l hl hup x W (zaD (zaw hb h) hb.size));clear h hup;go_enter Tryz.func97,Tryz.ntmps97;go_wp2_with fail;refine(uh HB _ ((zsY _ _).alloc (zsG _) _)).mono ?_;rintro e w2 ⟨i,rfl,hb2⟩;have Hb:=zaa ((zsY w.heap.size w).alloc (zsG _) (.cells #[.int .i64 x.1,.int .i64 x.2.1,.int .i64 x.2.2] 57) |>.trans (zab hb2 (by simp)));clear hb2 HB;go_wp2;go_ret;exact⟨rfl,uh Hb⟩
end Go.Proofs.YtieciibnajeibaaGreatDoor
namespace Go.Proofs.YtieciibnajeibaaGreatDoor
open Go.RowKit Go.Maps
def zl4(G:Gm)(st:List It):Prop:=clV G st=0/\(clR G st).length=st.length
theorem zku(R0:Nat->Prop)(B cb gb tb:Nat)(G:Gm)(hG:GOk G)(w:World)(hc0:ClB R0 B w cb gb tb G)(ht:RsT R0 w G tb)(hR0:∀ k,R0 k->k<w.heap.size)(htab:Tb w.heap.size w)(ia:Option Addr)(ic:Nat)(l:List It)(hl:l.length<=1000000000)(hit:∀ x,x ∈ l->zcv G x=true)(hi:zcE w.heap.size w ia l)(hia:∀ x,ia=some x->x.block≠tb) :
 Calls Tryz.prog 98 #[.pointer (some ⟨cb,0,none⟩),.slice ia l.length ic] w λe w'=>(∃ r:Bool,e=.returned (.bool r)/\(r=true↔zl4 G l))/\Fr (λk=>k=tb) w w'/\∃ R':Nat->Prop,ClB R' B w' cb gb tb G/\RsT R' w' G tb/\(∀ k,R0 k->R' k)/\(∀ k,R' k->R0 k\/w.heap.size<=k)/\∀ k,R' k->k<w'.heap.size:=by
 have HC:=zaa (zdB R0 B cb gb tb G hG w hc0 ht hR0 htab ia ic l hl hit hi hia);clear hc0 ht hR0 htab hi hia;go_enter Tryz.func98,Tryz.ntmps98;go_wp2_with fail;refine(uh HC).mono ?_;rintro e w2 ⟨a2,c2,rfl,-,hf2,hrs2⟩;have Hf:=zaa hf2;have Hr:=zaa hrs2;clear hf2 hrs2 HC;by_cases hv:clV G l=0
 ·by_cases hn:(clR G l).length=l.length
  ·have Hp:=zaa (show zl4 G l from⟨hv,hn⟩);have hvI:(clV G l == 0)=true:=by rw[hv];rfl
   have hnI:(((clR G l).length:Int) == (l.length:Int))=true:=by rw[hn];exact beq_self_eq_true _
   clear hv hn;generalize (clR G l).length=n at *;generalize clV G l=v at *;go_wp2;refine bodyPost_ret (v:=.bool true) ?zz1 rfl ⟨⟨true,rfl,⟨λ_=>uh Hp,λ_=>rfl⟩⟩,uh Hf,uh Hr⟩
   case zz1=>simp[results,Tryz.results98,go_sem]
  ·have Hp:=zaa (show ¬ zl4 G l from λh=>hn h.2);have hvI:(clV G l == 0)=true:=by rw[hv];rfl
   have hnI:(((clR G l).length:Int) == (l.length:Int))=false:=by rw[beq_eq_false_iff_ne];intro h;exact hn (by omega)
   clear hv hn;generalize (clR G l).length=n at *;generalize clV G l=v at *;go_wp2;refine bodyPost_ret (v:=.bool false) ?zz2 rfl ⟨⟨false,rfl,⟨(λh=>absurd h (by decide)),λh=>absurd h (uh Hp)⟩⟩,uh Hf,uh Hr⟩
   case zz2=>simp[results,Tryz.results98,go_sem]
 ·have Hp:=zaa (show ¬ zl4 G l from λh=>hv h.1);have hvI:(clV G l == 0)=false:=by simpa using hv
  clear hv;generalize (clR G l).length=n at *;generalize clV G l=v at *;go_wp2;refine bodyPost_ret (v:=.bool false) ?zz3 rfl ⟨⟨false,rfl,⟨(λh=>absurd h (by decide)),λh=>absurd h (uh Hp)⟩⟩,uh Hf,uh Hr⟩
  case zz3=>simp[results,Tryz.results98,go_sem]
theorem ztG(sa pa ta:Option Addr)(sc pc tc:Nat)(st:List It)(sp:List Sp)(tp:List It)(hs:st.length<=281474976710656)(hp:sp.length<=281474976710656)(ht:tp.length<=1000000000)(hup:UpI st)(w:World)(h1:zcE w.heap.size w sa st)(h2:zhP w.heap.size w pa sp)(h3:zcE w.heap.size w ta tp) :
 Calls Tryz.prog 100 #[.slice sa st.length sc,.slice pa sp.length pc,.slice ta tp.length tc] w λe w'=>(∃ r:Bool,e=.returned (.bool r)/\(r=true↔(sp=zcP tp/\∀ i,i ∈ tp->i ∈ st)))/\Below w.heap.size w w':=by
 have HC:=zaa (zm8 ta tc tp ht w h3);have H1:=zaa h1;have H2:=zaa h2;have H3:=zaa h3;have Hup:=zaa hup;clear h1 h2 h3 hup;go_enter Tryz.func100,Tryz.ntmps100;go_wp2_with fail;refine(uh HC).mono ?_;rintro e w2 ⟨a2,c2,rfl,hown2,hb2⟩;obtain⟨a2',c2',e2,hsp2⟩:=zjU hown2;obtain⟨rfl,rfl⟩:a2=a2'/\c2=c2':=by simpa using e2
 have HE:=zaa (zoh pa a2 pc c2 sp (zcP tp) hp w2 (zfJ (zfK hb2 (uh H2)) hb2.size) hsp2);have Hb2:=zaa hb2;have hs2:=hb2.size;clear hown2 hsp2 HC hb2;go_wp2_with fail;refine(uh HE).mono ?_;rintro e w3 ⟨rfl,q,rfl⟩;clear HE;by_cases he:sp=zcP tp
 ·have hd:decide (sp=zcP tp)=true:=decide_eq_true he;rw[hd];clear hd;have He:=zaa he;clear he;go_wp2_with fail;have hbq:Below w.heap.size w (w2.drewN q):=zaq (uh Hb2) q;have hsq:=hbq.size;generalize w2.drewN q=w3 at *;have Hbq:=zaa hbq;clear hbq
  go_loopw [16] (λx wr=>∃ k:Nat,x=.int .i64 (k:Int)/\k<=tp.length/\(∀ j,j<k->tp.getD j it0 ∈ st)/\Below w.heap.size w wr) (λx _=>tp.length - (intOf x).toNat)
  case atStart=>exact⟨0,rfl,zsK _,λj hj=>absurd hj (Nat.not_lt_zero _),uh Hbq⟩
  case round =>
   obtain⟨k,rfl,hk,hok,hb⟩:=hrel;have hsz:=hb.size;have Hok:=zaa hok;have Hb:=zaa hb;clear hok hb;by_cases hlt:k<tp.length
   ·have hlt':(k:Int)<(tp.length:Int):=by omega
    obtain⟨b,off,rfl,hbl,x0,x1,x2⟩:=zb3 (zaw (uh Hb) (uh H3)) hlt;have HH:=zaa (λ(W:World) (hb:Below w.heap.size w W)=>zky sa sc st hs (uh Hup) (tp.getD k it0) W (zaD (zaw hb (uh H1)) hb.size))
    have Hnx:Hid (tp.getD k it0 ∈ st->∀ j,j<k+1->tp.getD j it0 ∈ st):=zaa (λh9 j hj=>by
     by_cases e:j=k
     ·rw[e];exact h9
     ·exact uh Hok j (by omega))
    have Hno:Hid (tp.getD k it0 ∉ st->¬ (sp=zcP tp/\∀ i,i ∈ tp->i ∈ st)):=zaa (λh9 h8=>h9 (h8.2 _ (zdf hlt)));generalize tp.getD k it0=x at *;go_wp2_with fail;have hbx:Below w.heap.size w (wr.alloc (.cells #[.int .i64 x.1,.int .i64 x.2.1,.int .i64 x.2.2] 57)):=(uh Hb).alloc hsz _;have hsx:=hbx.size;generalize wr.alloc (.cells #[.int .i64 x.1,.int .i64 x.2.1,.int .i64 x.2.2] 57)=wx at *;refine(uh HH _ hbx).mono ?_;rintro e w4 ⟨rfl,hb4⟩;have Hb4:=zaa (hbx.trans (zab hb4 hsx));by_cases hm:x ∈ st
    ·have Hf:=zaa (uh Hnx hm);have hd:decide (x ∈ st)=true:=decide_eq_true hm;rw[hd];clear hb4 hbx HH Hnx Hno hm hd;go_wp2;go_roundw
     case rel=>exact⟨k+1,by go_num,by omega,uh Hf,uh Hb4⟩
     case measure=>simp[intOf];omega
    ·have Hf:=zaa (uh Hno hm);have hd:decide (x ∈ st)=false:=decide_eq_false hm;rw[hd];clear hb4 hbx HH Hnx Hno hm hd;go_wp2;refine bodyPost_ret (v:=.bool false) ?zz4 rfl ⟨⟨false,rfl,⟨(λh=>absurd h (by decide)),λh=>absurd h (uh Hf)⟩⟩,uh Hb4⟩
     case zz4=>simp[results,Tryz.results100,go_sem]
   ·have hlt':¬ (k:Int)<(tp.length:Int):=by omega
    obtain rfl:k=tp.length:=by omega
    have Hf:Hid (sp=zcP tp/\∀ i,i ∈ tp->i ∈ st):=zaa ⟨uh He,λi hi=>by
     obtain⟨j,hj,rfl⟩:=zsT.1 hi;have:=uh Hok j hj
     rwa [zsE,zsF hj] at this⟩
    go_wp2;refine bodyPost_ret (v:=.bool true) ?zz5 rfl ⟨.inr ⟨rfl,(uh Hf).1,λa b c h=>(uh Hf).2 _ h⟩,uh Hb⟩
    case zz5=>simp[results,Tryz.results100,go_sem]
 ·have hd:decide (sp=zcP tp)=false:=decide_eq_false he;rw[hd];clear hd;have He:=zaa he;clear he;go_wp2;refine bodyPost_ret (v:=.bool false) ?zz3 rfl ⟨⟨false,rfl,⟨(λh=>absurd h (by decide)),λh=>absurd h.1 (uh He)⟩⟩,zaq (uh Hb2) _⟩
  case zz3=>simp[results,Tryz.results100,go_sem]
def zbF(G:Gm)(l:List It):Int:=if za1 G then if zck G l then 0 else 140 else 130
def zeR(G:Gm)(l:List It):List It:=if zbF G l=0 then zfn G (zct l) else[]
variable{G:Gm}{l:List It}
theorem ze2(h:za1 G=false):zbF G l=130:=by unfold zbF;rw[h];rfl
theorem ze1(h:za1 G=true)(h2:zck G l=false):zbF G l=140:=by unfold zbF;rw[h,h2];rfl
theorem zk2(h:za1 G=true)(h2:zck G l=true):zbF G l=0:=by unfold zbF;rw[h,h2];rfl
def zbu(r:List It)(v:Int)(w:World)(e:Ending)(w':World):Prop:=∃ a c,e=.returned (.tuple #[.slice a r.length c,.int .i64 v])/\w'.ownsRow w.heap.size 57 3 (.slice a r.length c) r.length (zaF r)/\Below w.heap.size w w'
theorem zcz{w w':World}{v:Int}(hb:Below w.heap.size w w'):zbu [] v w (.returned (.tuple #[.slice none 0 0,.int .i64 v])) w':=⟨none,0,rfl,World.ownsRow_nil _ _ _ _,hb⟩
theorem zib(G:Gm)(ka pa ra qa:Option Addr)(kc pc rc qc:Nat)(ia:Option Addr)(ic:Nat)(l:List It)(hl:l.length<=5864062014805)(w:World)(hin:GIn w.heap.size w G ka pa ra qa)(hsm:smG G)(hi:zcE w.heap.size w ia l)(W1:World)(hW1:W1=(w.alloc (.cells #[.slice ka G.kinds.length kc,.slice pa G.precs.length pc,.slice ra G.rules.length rc,.slice qa G.prods.length qc,.int .i64 G.start] 26)).alloc (.cells #[.slice ia l.length ic] 27)):Calls Tryz.prog 32 #[gV G ka pa ra qa kc pc rc qc,.slice (some ⟨w.heap.size+1,0,none⟩) 1 1] W1 λe w'=>zjE G [l] w e w':=by
 have hb01:Below w.heap.size w W1:=by rw[hW1];exact((zsY _ _).alloc (zsG _) _).alloc (by simp) _
 have hs1:W1.heap.size=w.heap.size+1+1:=by rw[hW1];simp
 have hx1:W1.heap[w.heap.size+1]? = some (.cells #[.slice ia l.length ic] 27 (0,0)):=by
  have:=zsH (w.alloc (.cells #[.slice ka G.kinds.length kc,.slice pa G.precs.length pc,.slice ra G.rules.length rc,.slice qa G.prods.length qc,.int .i64 G.start] 26)) (.cells #[.slice ia l.length ic] 27);rw[<- hW1] at this;simpa using this
 refine(zem G ka pa ra qa kc pc rc qc (some ⟨w.heap.size+1,0,none⟩) 1 [l] (by simp) W1 (zbY hin hb01) hsm (.inr ⟨w.heap.size+1,0,rfl,by omega,λj hj=>by
  obtain rfl:j=0:=by simp at hj;omega
  exact⟨ia,ic,zac hx1 0 rfl,zaD (zaw hb01 hi) hb01.size,by simp;omega⟩⟩)).mono ?_
 rintro e w' ⟨h1,h2⟩;refine⟨hb01.trans (zab h1 hb01.size),?_⟩;rcases h2 with h2 | h2 | ⟨h2,h3,gb,h4,h5,h6⟩
 ·exact .inl h2
 ·exact .inr (.inl h2)
 ·exact .inr (.inr ⟨h2,h3,gb,h4,by omega,h6⟩)
theorem zjz(G:Gm)(ka pa ra qa:Option Addr)(kc pc rc qc:Nat)(ia:Option Addr)(ic:Nat)(l:List It)(hl:l.length<=5864062014805)(w:World)(hin:GIn w.heap.size w G ka pa ra qa)(hsm:smG G)(hi:zcE w.heap.size w ia l) :
 Calls Tryz.prog 16 #[gV G ka pa ra qa kc pc rc qc,.slice ia l.length ic] w λe w'=>zbu (zeR G l) (zbF G l) w e w':=by
 have HN:=zaa (zib G ka pa ra qa kc pc rc qc ia ic l hl w hin hsm hi);have Hi:=zaa hi;unfold gV at HN ⊢;clear hin hi;go_enter Tryz.func16,Tryz.ntmps16;go_wp2_with fail;refine(uh HN _ rfl).mono ?_;rintro e w' ⟨hb,h | h | h⟩
 ·obtain⟨h1,rfl⟩:=h;have Hf:=zaa (show zbu (zeR G l) (zbF G l) w (.returned (.tuple #[.slice none 0 0,.int .i64 130])) w' from by rw[show zeR G l=[] by unfold zeR;rw[ze2 h1];rfl,ze2 h1];exact zcz hb);clear hb h1 HN Hi;go_wp2;refine bodyPost_ret (v:=.tuple #[.slice none 0 0,.int .i64 130]) ?zz1 rfl (uh Hf)
  case zz1=>simp[results,Tryz.results16,go_sem]
 ·obtain⟨h1,h4,rfl⟩:=h;have h5:zck G l=false:=by simpa [zdJ] using h4
  have Hf:=zaa (show zbu (zeR G l) (zbF G l) w (.returned (.tuple #[.slice none 0 0,.int .i64 140])) w' from by rw[show zeR G l=[] by unfold zeR;rw[ze1 h1 h5];rfl,ze1 h1 h5];exact zcz hb);clear hb h1 h4 h5 HN Hi;go_wp2;refine bodyPost_ret (v:=.tuple #[.slice none 0 0,.int .i64 140]) ?zz2 rfl (uh Hf)
  case zz2=>simp[results,Tryz.results16,go_sem]
 ·obtain⟨h1,h4,gb,rfl,h6,h7⟩:=h;have h5:zck G l=true:=by simpa [zdJ] using h4
  have hG:=zbi h1;have Hv:=zaa (zk2 h1 h5);have hs:=hb.size;have HI:=zaa (zdy w'.heap.size ia ic l hl w' (zsG _) (zaD (zaw hb (uh Hi)) hs));have Hb:=zaa hb;have Hg:=zaa h7;have Hit:=zaa (areIt_iff.1 h5);clear hb h1 h4 h5 h6 h7 HN;go_wp2_with fail;refine(uh HI).mono ?_;rintro e w3 ⟨a3,c3,rfl,hown3,hb3⟩;have hs3:=hb3.size;have HK:=zaa (zif w3.heap.size gb G hG a3 c3 (zct l) (by have:=zgv hG (uh Hit);omega) w3 (zsG _) (zeC (zbQ (uh Hg) (zsG _) hb3) hs3) (zaU hown3));have Hb3:=zaa ((uh Hb).trans (zab hb3 hs));clear hown3 hb3 HI;go_wp2_with fail;refine(uh HK).mono ?_;rintro e w4 ⟨a4,c4,rfl,hown4,hb4⟩
  have Hf:Hid (zbu (zeR G l) (zbF G l) w (.returned (.tuple #[.slice a4 (zfn G (zct l)).length c4,.int .i64 0])) w4):=zaa (by
   rw[show zeR G l=zfn G (zct l) by unfold zeR;rw[uh Hv];rfl,uh Hv]
   exact⟨a4,c4,rfl,zaO hown4 (by omega),(uh Hb3).trans (zab hb4 (by omega))⟩)
  clear hown4 hb4 HK Hb3 Hb Hg;generalize (zfn G (zct l)).length=n at *;go_wp2;refine bodyPost_ret (v:=.tuple #[.slice a4 n c4,.int .i64 0]) ?zz3 rfl (uh Hf)
  case zz3=>simp[results,Tryz.results16,go_sem]
end Go.Proofs.YtieciibnajeibaaGreatDoor

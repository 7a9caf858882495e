import Derived.Test.YtieciibnajeibaaGreatDoorKE
import Derived.Test.YtieciibnajeibaaGreatDoorJN
set_option maxHeartbeats 8000000
set_option maxRecDepth 100000
namespace Go.Proofs.YtieciibnajeibaaGreatDoor
open Go.RowKit Go.Shelf Go.Maps
attribute [local go_sem] Oper.semAt_some
def zi1(p:Nat)(vs:List Int):List It:=vs.map λy=>((p:Int),0,y)
def zdO(G:Gm)(M:Nat->Nat->Bool)(p:Nat):List Int:=zgm (zay (M (zbS G p)) G.nk)
def ahI(G:Gm)(M:Nat->Nat->Bool)(ps:List Nat):List It:=ps.flatMap λp=>zi1 p (zdO G M p)
theorem zui(G:Gm)(M:Nat->Nat->Bool)(ps:List Nat)(p:Nat):ahI G M (ps ++ [p])=ahI G M ps ++ zi1 p (zdO G M p):=by
 unfold ahI;rw[List.flatMap_append];simp
theorem zh2(G:Gm)(M:Nat->Nat->Bool)(p:Nat):(zdO G M p).length<=G.nk:=by
 have:=ziE (zay (M (zbS G p)) G.nk) (zay (M (zbS G p)) G.nk).length;unfold zdO zgm;rw[zaQ] at this ⊢;exact this
theorem zlX{G:Gm}(hG:GOk G)(M:Nat->Nat->Bool):∀ ps:List Nat,(ahI G M ps).length<=ps.length * 1024
 | []=>by simp[ahI]
 | p::ps=>by
   have ih:=zlX hG M ps;have h1:=zh2 G M p;have h2:=hG.k3;have e:ahI G M (p::ps)=zi1 p (zdO G M p) ++ ahI G M ps:=by unfold ahI;simp
   rw[e,zsI];have h3:(zi1 p (zdO G M p)).length=(zdO G M p).length:=by unfold zi1;simp
   rw[h3,List.length_cons,Nat.add_mul];omega
variable{B:Nat}{G:Gm}{M:Nat->Nat->Bool}{w:World}
theorem zvY{ps:List Nat}{x:It}:x ∈ ahI G M ps↔∃ p,p ∈ ps/\∃ k:Nat,k<G.nk/\M (zbS G p) k=true/\x=((p:Int),0,(k:Int)):=by
 unfold ahI zi1 zdO;rw[List.mem_flatMap];constructor
 ·rintro⟨p,hp,hx⟩;obtain⟨y,hy,rfl⟩:=List.mem_map.1 hx;obtain⟨k,rfl,hk,hm⟩:=mem_posL.1 hy;exact⟨p,hp,k,hk,hm,rfl⟩
 ·rintro⟨p,hp,k,hk,hm,rfl⟩;exact⟨p,hp,List.mem_map.2 ⟨(k:Int),mem_posL.2 ⟨k,rfl,hk,hm⟩,rfl⟩⟩
theorem zxl{P:Nat->Bool}(hn:∀ q,P q=false->∀ k,M q k=false){xs:List (PrI G P)}(h:AhS G P xs)(l:List It):zfB (l ++ ahI G M (xs.map Subtype.val))=zfB (l ++ mkI G M G.nk G.prods.length):=by
 refine znG (λx=>?_);rw[List.mem_append,List.mem_append,zvY,mem_mkI];constructor
 ·rintro(hx | ⟨p,hp,k,hk,hm,rfl⟩)
  ·exact .inl hx
  ·obtain⟨y,-,rfl⟩:=List.mem_map.1 hp;exact .inr ⟨y.1,k,rfl,y.2.1,hk,hm⟩
 ·rintro(hx | ⟨p,k,rfl,hp,hk,hm⟩)
  ·exact .inl hx
  ·refine .inr ⟨p,h.1 p hp ?_,k,hk,hm,rfl⟩
   cases h9:P (zbS G p) with
   | true=>rfl
   | false=>rw[show (G.prods.getD p pd0).left.toNat=zbS G p from rfl,hn _ h9 k] at hm;cases hm
def WiI(w:World)(l:List It)(acc:List It)(V:World):Prop:=∃ v,Boxed V w.heap.size 27 v/\V.ownsRow w.heap.size 57 3 v (l ++ acc).length (zaE (l ++ acc))/\Below w.heap.size w V
theorem za4{a:Option Addr}{c:Nat}{l:List It}(h:w.ownsRow B 57 3 (.slice a l.length c) l.length (zaE l)):zcy w.heap.size w a l:=by
 by_cases e:l=[]
 ·exact .inl e
 ·obtain⟨g,cap,e2,-,hb⟩:=zjk h e;obtain rfl:a=some ⟨g,0,none⟩:=by simpa using (Value.slice.inj e2).1
  exact zub hb (by simp) (zsG _)
theorem znE{B1 B2:Nat}{e1 e2:TypeId}{s1 s2:Nat}{v1 v2:Value}{k1 k2:Nat}{xs1 xs2:List Value}(h1:w.ownsRow B1 e1 s1 v1 k1 xs1)(h2:w.ownsRow B2 e2 s2 v2 k2 xs2)(hne:e1≠e2):v1=.slice none 0 0\/v1.ownBlock≠v2.ownBlock:=by
 rcases h1.2 with ⟨rfl,_⟩ | ⟨g,cap,cur,rfl,_,hg,_⟩
 ·exact .inl rfl
 ·refine .inr (λe=>?_);rcases h2.2 with ⟨rfl,_⟩ | ⟨g',cap',cur',rfl,_,hg',_⟩
  ·simp[Value.ownBlock] at e
  ·obtain rfl:g=g':=by simpa [Value.ownBlock] using e
   rw[hg] at hg'
   cases hg'
   exact hne rfl
theorem zc8{e t:TypeId}{s:Nat}{v:Value}{k:Nat}{xs:List Value}(h:w.ownsRow B e s v k xs){b:Nat}{cs:Array Value}{f:Nat × Nat}(hb:w.heap[b]? = some (.cells cs t f))(hne:t≠e):some b≠v.ownBlock:=by
 rcases h.2 with ⟨rfl,_⟩ | ⟨g,cap,cur,rfl,_,hg,_⟩
 ·simp[Value.ownBlock]
 ·intro e';obtain rfl:b=g:=by simpa [Value.ownBlock] using e'
  rw[hg] at hb
  cases hb
  exact hne rfl
theorem cells3(w:World)(a b c:Value)(t:TypeId):∀ j u,([a,b,c]:List Value)[j]? = some u->(w.alloc (.cells #[a,b,c] t)).cell? ((⟨w.heap.size,0,none⟩:Addr).add j)=some u:=λj u hj=>by
 have hb:=zsH w (.cells #[a,b,c] t);have e:(⟨w.heap.size,0,none⟩:Addr).add j=⟨w.heap.size,j,none⟩:=by unfold Addr.add;split <;> simp_all
 rw[e];refine zac hb j ?_;rw[<- hj];simp
theorem zkg{V W:World}(h:Below V.heap.size V W):KeepsOthers V W:=⟨h.size,λk _ hk _=>(h.block k (zsO.1 hk).1).trans hk⟩
theorem zqe{p:Nat}{vs:List Int}{j:Nat}(h:j<vs.length):zi1 p (vs.take (j+1))=zi1 p (vs.take j) ++ [((p:Int),0,vs.getD j 0)]:=by
 unfold zi1;rw[zsU,zsF h,zsE,zsF h,List.map_append];rfl
theorem zoA(R R0:Nat->Prop)(B cb gb tb sb mb lb:Nat)(G:Gm)(hG:GOk G)(P:Nat->Bool)(A:Nat->Nat)(OO:Nat->Nat->Prop)(LO:Nat->Prop)(n:Nat)(M:Nat->Nat->Bool)(H:Nat->Bool)(cnt:Nat)(w:World)
 (h:ClS R B cb gb tb sb mb lb G P A OO LO n M H cnt w) (hc0:ClB R0 B w cb gb tb G) (hR0:∀ k,R0 k->k<w.heap.size) (htab:Tb w.heap.size w) (hM:∀ q k,M q k=true->k<G.nk) (ia:Option Addr) (ic:Nat) (l:List It) (hl:l.length<=1000000000) (hi:zcy w.heap.size w ia l) :
 Calls Tryz.prog 69 #[.pointer (some ⟨sb,0,none⟩),.slice ia l.length ic] w λe w'=>∃ a' c',e=.returned (.slice a' (zfB (l ++ mkI G M G.nk G.prods.length)).length c')/\w'.ownsRow w.heap.size 57 3 (.slice a' (zfB (l ++ mkI G M G.nk G.prods.length)).length c') (zfB (l ++ mkI G M G.nk G.prods.length)).length (zaE (zfB (l ++ mkI G M G.nk G.prods.length)))/\Below w.heap.size w w':=by
 obtain⟨i0,hi0,hz0,hz1,hz2⟩:=zah zh6;obtain⟨na,nc,fa,fc,oa,oc,rc,hcbx,hR0c,-,-,-,-,-,hOw⟩:=hc0;have s0:=zac h.box 0 rfl;have s1:=zac h.box 1 rfl;have c3:=zac hcbx 3 rfl;have hsl:=(zsO.1 h.box).1
 have Ht:=zaa (λ(W:World) (hb:Below w.heap.size w W)=>zlW Fence.wide 19 trivial rfl (by omega) G hG P A h.pn sb cb mb n oa oc R0 (λk=>k=sb\/R0 k) W ((hb.cell (p:=⟨sb,0,none⟩) hsl).trans s0) ((hb.cell (p:=⟨sb,1,none⟩) hsl).trans s1) ((hb.cell (p:=⟨cb,3,none⟩) (hR0 _ hR0c)).trans c3)
  (λq hq=>by
   obtain⟨b,off,a,c,e,hb1,hc1,hr1⟩:=hOw q hq;refine⟨b,off,a,c,e,hb1,(hb.cell (p:=⟨b,off+q,none⟩) (hR0 _ hb1)).trans hc1,?_⟩;rcases hr1 with hr | ⟨b',off',r1,r2,r3⟩
   ·exact .inl hr
   ·exact .inr ⟨b',off',r1,r2,λj hj=>(hb.cell (p:=⟨b',off'+j,none⟩) (hR0 _ r2)).trans (r3 j hj)⟩)
  (zdJ h.mp (hb.block mb (zc7 h.mp))) (.inl rfl) (.inr hR0c) (λk hk=>.inr hk) (λk hk=>by
   have:=hb.size;rcases hk with rfl | hk
   ·omega
   ·have:=hR0 k hk;omega))
 have Hh:=zaa h;have Htab:=zaa htab;have HM:=zaa hM;have Hi:=zaa hi;clear h htab hM hi hcbx hOw s0 s1 c3 hsl hR0c;have hmf:∀ (fn:Fn) (first cap:Array Value) (w:World),(Instr.makeFunc fn first cap).run Tryz.prog w=.ok (.func fn first cap) w:=λ_ _ _ _=>rfl;obtain⟨W0,hW0⟩:∃ W0,W0=w.alloc (.cells #[.slice ia l.length ic] 27):=⟨_,rfl⟩;have hb0:Below w.heap.size w W0:=by rw[hW0];exact(zsY _ _).alloc (zsG _) _
 have hx0:Boxed W0 w.heap.size 27 (.slice ia l.length ic):=by rw[hW0];exact Boxed.new w 27 _
 have hs0:W0.heap.size=w.heap.size+1:=by rw[hW0];simp
 have x0:=hx0.cell;have HC:=zaa (zih W0.heap.size ia ic l (by omega) W0 (zsG _) (zaI (zaw hb0 (uh Hi)) hb0.size));refine(callsIn_wide (n:=20)).1 ?_;refine callsIn_of_wp_marks Tryz.func69 rfl trivial ?_ rfl;simp only[Tryz.ntmps69,List.size_toArray,List.length_cons,List.length_nil,Nat.reduceAdd,Nat.reduceSub,Array.replicate_succ,Array.replicate_zero,List.push_toArray,List.append_toArray,List.nil_append,List.cons_append]
 gi_wp2_with fail
 rw[<- hW0];refine⟨trivial,(callsIn_wide.2 (uh HC)).mono ?_⟩;rintro e1 W1 ⟨v,rfl,hown1,hb1⟩;obtain⟨av,cv,rfl⟩:=zaf hown1;have hx1:Boxed W1 w.heap.size 27 (.slice ia l.length ic):=(hb1.block _ (by omega)).trans hx0;have x1:=hx1.cell;have z1:=hx1.frozen;have hWi:WiI w l [] (W1.setCell ⟨w.heap.size,0,none⟩ (.slice av l.length cv)):=by
  refine⟨_,hx1.set _,?_,(hb0.trans (zab hb1 hb0.size)).setCell (p:=⟨w.heap.size,0,none⟩) (zsG _) _⟩;rw[List.append_nil];exact(zaR hown1 hb0.size).kept (grownBy_setCell' W1 w.heap.size _) (.inr (hx1.not_row (by decide) hown1).symm)
 have HWi:=zaa hWi;clear hown1 hb1 hx1 hWi hx0 HC x0
 gi_wp2_with fail
 obtain⟨W2,hW2⟩:∃ W2,W2=W1.setCell ⟨w.heap.size,0,none⟩ (.slice av l.length cv):=⟨_,rfl⟩;rw[<- hW2];have hWi:=uh HWi;rw[<- hW2] at hWi;clear hW2 HWi x1 z1;have hb2:Below w.heap.size w W2:=hWi.choose_spec.2.2;have HWi:=zaa hWi;clear hWi;have hsz2:=hb2.size;refine zgz rfl (by omega) (gf:=120) (fb:=#[.pointer (some ⟨sb,0,none⟩)]) rfl trivial (enters_of Tryz.func120 (by kernel_rfl) rfl) (uh Ht W2 hb2) (λh k=>⟨walksK_t h.1 k.1,zfP h.2 k.2⟩) (λV l o o' h1 h2 h3 h4=>⟨walksK_b (w:=W2) V l o o' h1 h2 h3 h4,zlw (w:=W2) V l o o' h1 h2 h3 h4⟩) (λ_=>rfl)
  (λ(pre:List (PrI G P)) V=>WiI w l (ahI G M (pre.map Subtype.val)) V) ?hI (uh HWi)
  (λx a' V=>∃ Bx,w.heap.size<Bx/\V.heap[Bx]? = some (.cells #[.int .i64 (x.1:Int),.int .i64 0] 121 (0,0))/\a'={ tmps:=#[.pointer (some ⟨sb,0,none⟩),.slice ia l.length ic,undef,.pointer (some ⟨w.heap.size,0,none⟩),.slice none 0 0,.pointer (some ⟨Bx,0,none⟩),.pointer (some ⟨A (zbS G x.1),0,none⟩),undef,undef,.slice ia l.length ic,.slice av l.length cv,.pointer (some ⟨sb,0,none⟩),.func (.func 120) #[.pointer (some ⟨sb,0,none⟩)] #[],.agg #[.int .i64 (x.1:Int),.int .i64 0],.pointer (some ⟨A (zbS G x.1),0,none⟩),undef,undef,undef,undef,undef,undef,undef,undef,undef,undef,undef,undef,undef,undef,undef,undef,undef],defers:=[] })
  ?hAx ?assign ?body ?done
 case hI =>
  rintro s X Y row ⟨v,h1,h2,h3⟩ hg hr;obtain⟨v',k1,k2,-⟩:=holdsRow_own w.heap.size w.heap.size 27 57 3 (λ(_:Unit)=>(l ++ ahI G M (s.map Subtype.val)).length) (λ_=>zaE (l ++ ahI G M (s.map Subtype.val))) (λ_ _=>True) () X Y row ⟨v,h1,h2,trivial⟩ hg (λr e=>(hr r e).2);exact⟨v',k1,k2,h3.grown hg h3.size (λj hj=>zsy hsz2 (hr j hj).1)⟩
 case hAx =>
  rintro x a' _ X Y row ⟨Bx,h1,h2,h3⟩ hg hr;refine⟨Bx,h1,(hg.block Bx (zsO.1 h2).1 (λe=>?_)).trans h2,h3⟩;obtain⟨-,o,h4,h5⟩:=hr Bx e.symm;rw[h2] at h4
  cases h4
  cases h5
 case assign =>
  rintro l0 pre x V K hi hK;obtain⟨v,k1,k2,k3⟩:=hi;have hbV:=k3.size
  dsimp only[zrw]
  gi_wp2
  exact hK _ _ ((KeepsOthers.alloc _ _).from _) ⟨(KeepsOthers.alloc _ _).walks,zeN (World.grownBy_alloc V _ none) (λr e=>by cases e)⟩ ⟨v,k1.alloc _,k2.alloc _,k3.alloc hbV _⟩ ⟨V.heap.size,k1.lt,zsH V _,rfl⟩
 case body =>
  rintro l0 pre x a' V hl0 ⟨r,hr⟩ ⟨v0,hbx,hrow,hbV⟩ ⟨Bx,hBx,bX,rfl⟩ hpl;obtain⟨p,hp,hPp⟩:=x;simp only at bX ⊢;have hset:=zaz ((uh Hh).set (zbS G p) hPp) (zae (O:=λ_=>False) hbV) (λ_ _ h=>h);have hTV:Tb V.heap.size V:=zdz (uh Htab) (zsG _) hbV;have HA:=zaa (all_n (A (zbS G p)) (OO (zbS G p)) (kF M (zbS G p)) (M (zbS G p)) G.nk (λm=>by unfold kF;rw[Bool.and_eq_true,decide_eq_true_eq]) (uh HM (zbS G p)) V hset hTV);have hacc:=zlX hG M (pre.map Subtype.val);rw[List.length_map] at hacc;have hps:=hG.ps;have hvl:=zh2 G M p;have hnk:=hG.k3;have hVs:=hbV.size
  have Hend:Hid (∀ V9,WiI w l (ahI G M (pre.map Subtype.val) ++ zi1 p (zdO G M p)) V9->WiI w l (ahI G M ((pre ++ [(⟨p,hp,hPp⟩:PrI G P)]).map Subtype.val)) V9):=zaa (λV9 h9=>by
   rw[List.map_append];show WiI w l (ahI G M (pre.map Subtype.val ++ [p])) V9;rw[zui]
   exact h9)
  generalize hacE:ahI G M (pre.map Subtype.val)=acc at *;have Hvs:Hid (zgm (zay (M (zbS G p)) G.nk)=zdO G M p):=zaa rfl;rw[uh Hvs] at HA;generalize zdO G M p=vs at *;clear hset hacE Hvs
  gi_wp2_with fail
  refine⟨trivial,(CallsIn.inRound l0 (callsIn_wide.2 (uh HA))).mono ?_⟩;rintro e V2 ⟨vv,rfl,hown,hb2⟩;obtain⟨va,vc,rfl⟩:=zaf hown;have hbx2:Boxed V2 w.heap.size 27 v0:=(hb2.block _ hbx.lt).trans hbx;have hrow2:V2.ownsRow w.heap.size 57 3 v0 (l ++ acc).length (zaE (l ++ acc)):=by
   refine⟨hrow.1,?_⟩;rcases hrow.2 with h9 | ⟨g,cap,cur,e1,e2,e3,e4⟩
   ·exact .inl h9
   ·exact .inr ⟨g,cap,cur,e1,e2,(hb2.block _ (zsO.1 e3).1).trans e3,e4⟩
  have bX2:=(hb2.block _ (zsO.1 bX).1).trans bX;have hko:=zkg hb2;have hbV2:Below w.heap.size V V2:=zab hb2 hVs;have Hown:=zaa hown;have Hbx2:=zaa hbx2;have Hrow2:=zaa hrow2;have HbX2:=zaa bX2;have Hko:=zaa hko;have HbV2:=zaa hbV2;clear hown hbx2 hrow2 bX2 hko hb2 hbV2 HA bX hbx hrow
  gi_wp2_with fail
  gi_loopw [18] (λx Vr=>∃ (j:Nat) (v':Value),x=.int .i64 (j:Int)/\j<=vs.length/\Boxed Vr w.heap.size 27 v'/\Vr.ownsRow w.heap.size 57 3 v' (l ++ (acc ++ zi1 p (vs.take j))).length (zaE (l ++ (acc ++ zi1 p (vs.take j))))/\Vr.ownsRow V.heap.size 3 1 (.slice va vs.length vc) vs.length (zao vs)/\Vr.heap[Bx]? = some (.cells #[.int .i64 (p:Int),.int .i64 0] 121 (0,0))/\Below w.heap.size V Vr/\KeepsOthers V Vr) (λx _=>vs.length - (intOf x).toNat)
  case atStart=>exact⟨0,v0,rfl,zsK _,uh Hbx2,by simpa [zi1] using uh Hrow2,uh Hown,uh HbX2,uh HbV2,uh Hko⟩
  case round =>
   obtain⟨j,v',rfl,hj,hbx,hrow,hown,hbX,hbV9,hko⟩:=hrel;clear Hown Hbx2 Hrow2 HbX2 HbV2 Hko;have hrs:w.heap.size<=wr.heap.size:=zsy hVs hbV9.size;by_cases hjl:j<vs.length
   ·have hjlI:(j:Int)<(vs.length:Int):=by omega
    obtain⟨va',vc',e9,hnr⟩:=zb4 hown;obtain⟨rfl,rfl⟩:va=va'/\vc=vc':=by simpa using e9
    obtain⟨rb,roff,rfl,hrb,q0⟩:=zbf hnr hjl;have hits:=zqe (p:=p) hjl;have hlen:(l ++ (acc ++ zi1 p (vs.take j))).length=l.length+(acc.length+j):=by simp[zi1];omega
    have x0:=hbx.cell;have b0:=zac hbX 0 rfl;obtain⟨a',c',rfl⟩:=zaf hrow;have hnb:(l ++ (acc ++ zi1 p (vs.take j))).length<=2000000000:=by rw[hlen];omega
    obtain⟨ln,hln⟩:∃ ln,ln=(l ++ (acc ++ zi1 p (vs.take j))).length:=⟨_,rfl⟩;rw[<- hln] at hrow hnb hbx x0;have Hln:=zaa hln;clear hln;have Hits:=zaa hits;have Hlen:=zaa hlen;have Hnot1:=zaa (znE hown hrow (by decide));have Hnot2:=zaa (zc8 hrow hbX (by decide));have HbX:=zaa hbX;have Hown:=zaa hown;have HbV9:=zaa hbV9;have Hko:=zaa hko;clear hits hlen hbX hown hbV9 hko hnr;generalize vs.getD j 0=y at *;have hm1:ln+1<=maxLen:=by unfold maxLen;omega
    have hm2:(ln+1) * 24<=140737488355328:=by omega
    have hm3:w.heap.size<=(wr.alloc (.cells #[.int .i64 (p:Int),.int .i64 0,.int .i64 y] 57)).heap.size:=by simp;omega
    gi_wp2_with (first
     | (gi_at_builtin;go_loud ( refine wpListIn_append_own _ rfl _ _ 27 rfl w.heap.size 57 i0 (.agg #[.int .i64 0,.int .i64 0,.int .i64 0]) 3 24 Tryz.underlying27 hi0 hz0 hz1 hz2 rfl (by decide) _ _ _ rfl (hrow.alloc _) ⟨wr.heap.size,0,none⟩ 1 1 [.int .i64 (p:Int),.int .i64 0,.int .i64 y] rfl rfl (cells3 wr _ _ _ _) (by simp[Value.oneCell']) hm1 hm2 hm3 ?_;intro v9 w3 hown' hg3 _;obtain⟨g',cap',rfl⟩:=ownsRow_succ hown';obtain⟨hv1,hv2,hr2,hk2,hb3⟩:=hbx.appended (by decide) hrow hrs (zsG _) hown' hg3;have x3:=hv1.cell;have z3:=hv1.frozen;have Hap:=zaa (And.intro hv1 (And.intro hv2 (And.intro hr2 (And.intro hk2 (And.intro hb3 hg3)))));clear hown' hg3 hv1 hv2 hr2 hk2 hb3))
     | gi_in)
    obtain⟨hv1,hv2,hr2,hk2,hb3,hg3⟩:=uh Hap;have e1:l ++ (acc ++ zi1 p (vs.take (j+1)))=(l ++ (acc ++ zi1 p (vs.take j))) ++ [((p:Int),0,y)]:=by rw[uh Hits];simp
    have h1:=((uh Hown).alloc (.cells #[.int .i64 (p:Int),.int .i64 0,.int .i64 y] 57)).kept hg3 (.inr ((uh Hnot1).resolve_left (by simp)));have hbl:=(zsO.1 (uh HbX)).1;have h2:w3.heap[Bx]? = some (.cells #[.int .i64 (p:Int),.int .i64 0] 121 (0,0)):=(hg3.block Bx (by simp;omega) (uh Hnot2)).trans ((zsZ _ _ _ hbl).trans (uh HbX));refine⟨⟨j+1,_,by simp,by omega,hv2,?_,h1.kept (grownBy_setCell' w3 w.heap.size _) (.inr (zc8 h1 hv1 (by decide)).symm),(Below.heap_setCell _ _ _ Bx (by show Bx≠w.heap.size;omega)).trans h2,(uh HbV9).trans hb3,(uh Hko).trans hk2⟩,by simp[intOf];omega⟩;rw[e1,zsI,zcg,<- uh Hln];exact hr2
   ·obtain rfl:j=vs.length:=by omega
    have hjlI:¬ ((vs.length:Nat):Int)<(vs.length:Int):=by omega
    rw[zsN] at hrow;have Hbx:=zaa hbx;have Hrow:=zaa hrow;have HbV9:=zaa hbV9;have Hko:=zaa hko;clear hbx hrow hbV9 hko hown hbX
    gi_wp2
    refine⟨rfl,(uh Hko).from _,⟨(uh Hko).walks,(uh HbV9).size,λq v hq hv=>?_⟩,uh Hend wr ⟨v',uh Hbx,uh Hrow,(hbV.trans (uh HbV9))⟩⟩;refine((uh HbV9).cell (p:=q) ?_).trans hv;rcases hq with h9 | h9
    ·rw[h9];have:=(zsO.1 (uh Hh).box).1;exact this
    ·exact hR0 _ h9
 case done =>
  rintro D xs V hD hS ⟨v,hbx,hrow,hbV⟩ hKd;have hall:=zxl (uh Hh).non hS l;have hxl:(l ++ ahI G M (xs.map Subtype.val)).length<=5864062014805:=by
   have h1:=zj2 hS.2 (λp' hp'=>by
    obtain⟨x,-,rfl⟩:=List.mem_map.1 hp'
    exact x.2.1)
   have h2:=zlX hG M (xs.map Subtype.val);have h3:=hG.ps;rw[zsI];omega
  obtain⟨L0,hL0⟩:∃ L0,L0=l ++ ahI G M (xs.map Subtype.val):=⟨_,rfl⟩;rw[<- hL0] at hall hxl hrow;obtain⟨a',c',rfl⟩:=zaf hrow;have HI:=zaa (zg8 V.heap.size a' c' L0 hxl V (zsG _) (za4 hrow));rw[hall] at HI;clear hL0;have x0:=hbx.cell;have hDl:=(zsO.1 hKd).1;have hVs:=hbV.size;have HbV:=zaa hbV;have HKd:=zaa hKd;clear hall hrow hbx hbV hS;obtain⟨L,hL⟩:∃ L,L=zfB (l ++ mkI G M G.nk G.prods.length):=⟨_,rfl⟩;rw[<- hL] at HI;have HL:=zaa hL;clear hL;generalize L0.length=n0 at *
  gi_wp2_with fail
  refine⟨trivial,(callsIn_wide.2 (uh HI)).mono ?_⟩;rintro e W5 ⟨a5,c5,rfl,hown5,hb5⟩;have hK5:W5.heap[D]? = some (.deferred (some [])):=(hb5.block D hDl).trans (uh HKd);have hown5':=zaR (ownsRow_putObj hown5 (.deferred none) hK5 rfl) hVs;have hb5':Below w.heap.size w (W5.putObj D (.deferred none)):=((uh HbV).trans (zab hb5 hVs)).grown (grownBy_putObj' W5 D (.deferred none)) (by have:=hb5.size;omega) (λj hj=>by cases hj;omega);have Hfin:=zaa (And.intro hown5' hb5');clear hown5 hown5' hb5 hb5'
  gi_wp2
  refine⟨by simp,.inl ⟨_,_,rfl,run_takeDeferred hK5,?_⟩⟩;rw[<- uh HL];exact⟨.slice a5 L.length c5,by simp[results,Tryz.results69,go_sem],a5,c5,rfl,uh Hfin⟩
end Go.Proofs.YtieciibnajeibaaGreatDoor
namespace Go.Proofs.YtieciibnajeibaaGreatDoor
open Go.RowKit Go.Maps
def zhw(R0:Nat->Prop)(B cb gb tb:Nat)(G:Gm)(l:List It)(w:World)(e:Ending)(w':World):Prop :=
 ∃ a c,e=.returned (.tuple #[.slice a (clR G l).length c,.int .i64 (clV G l)])/\w'.ownsRow w.heap.size 57 3 (.slice a (clR G l).length c) (clR G l).length (zaE (clR G l))/\Fr (λk=>k=tb) w w'/\∃ R':Nat->Prop,ClB R' B w' cb gb tb G/\RsT R' w' G tb/\(∀ k,R0 k->R' k)/\(∀ k,R' k->R0 k\/w.heap.size<=k)/\∀ k,R' k->k<w'.heap.size
theorem zqj{B:Nat}{w w':World}{O:Nat->Prop}{a:Option Addr}{l:List It}(h:zcy B w a l)(hB:B<=w.heap.size)(hf:Fr O w w')(ha:∀ x,a=some x->¬ O x.block):zcy B w' a l:=by
 rcases h with h | ⟨b,off,rfl,hlt,hc⟩
 ·exact .inl h
 ·have hk:∀ {j:Nat} {v:Value},w.cell? ⟨b,j,none⟩=some v->w'.cell? ⟨b,j,none⟩=some v:=fun {j v} hv=>(zsL (hf.2.1 b (by omega) (ha _ rfl))).trans hv;exact .inr ⟨b,off,rfl,hlt,λj hj=>⟨hk (hc j hj).1,hk (hc j hj).2.1,hk (hc j hj).2.2⟩⟩
theorem zwT{R:Nat->Prop}{B cb gb tb sb mb lb:Nat}{G:Gm}{P:Nat->Bool}{A:Nat->Nat}{OO:Nat->Nat->Prop}{LO:Nat->Prop}{n:Nat}{M:Nat->Nat->Bool}{H:Nat->Bool}{cnt:Nat}{w:World}(h:ClS R B cb gb tb sb mb lb G P A OO LO n M H cnt w){b:Nat}(hlt:b<w.heap.size)(h1:b≠tb)(h2:b≠sb)(h3:b≠mb)(h4:¬ LO b)(h5:∀ q,P q=true->¬ OO q b):ClS (λk=>R k\/k=b) B cb gb tb sb mb lb G P A OO LO n M H cnt w :=
 ⟨h.box,zgw h.cl (λ_ h=>.inl h),zmf h.rt (λ_ h=>.inl h) (λh9=>h9.elim h.rt.1 (λe=>h1 e.symm)),λk hk=>hk.elim (h.rl k) (λe=>e▸hlt),h.mp,h.nle,h.set,h.non,λq hq k hk=>⟨λh9=>h9.elim (h.out q hq k hk).1 (λe=>h5 q hq (e▸hk)),(h.out q hq k hk).2⟩,h.ap,h.ls,λk hk=>⟨λh9=>h9.elim (h.lo k hk).1 (λe=>h4 (e▸hk)),(h.lo k hk).2⟩,⟨λh9=>h9.elim h.nR.1 (λe=>h2 e.symm),λh9=>h9.elim h.nR.2 (λe=>h3 e.symm)⟩,h.pn⟩
theorem zrZ{w w':World}{R:Nat->Prop}{G:Gm}{tb B0:Nat}(h:Tb w.heap.size w)(ht:RsT R w G tb)(hB:0<B0)(hf:Fr (λk=>k=tb\/B0<=k) w w'):Tb w'.heap.size w':=by
 refine⟨zsJ h.1 hf.1,λj hj=>?_⟩;have h0:(0:Nat)≠tb:=λe=>by
  obtain⟨-,cs,h1,h2,h3⟩:=ht;have c0:=h.2 0 (by omega);rw[<- e] at h1;rcases h3 0 (zsK _) with h4 | ⟨lb,h4,-⟩
  ·rw[zac h1 0 (by rw[List.getElem?_toArray];exact h4)] at c0;cases c0
  ·rw[zac h1 0 (by rw[List.getElem?_toArray];exact h4)] at c0;cases c0
 exact (zsL (hf.2.1 0 h.1 (by rintro (h9 | h9) <;> first | exact h0 h9 | omega))).trans (h.2 j hj)
theorem zwk{k:Int}(hk:0<=k)(x:It)(hx:x.2.2=k):inR [k]=gF (zlh x):=by
 funext m;unfold inR gF zlh;rw[hx,Bool.eq_iff_iff,decide_eq_true_eq,List.mem_singleton,Bool.and_eq_true,decide_eq_true_eq,decide_eq_true_eq];omega
theorem zwI{G:Gm}(hG:GOk G){M:Nat->Nat->Bool}(hM:∀ q k,M q k=true->k<G.nk):(mkI G M G.nk G.prods.length).length=zeo G (ctW M) G.prods.length :=
 zp4 (λq=>zuO (hM q) (by have:=hG.k3;omega)) _
theorem clL_mk{G:Gm}{l:List It}{M:Nat->Nat->Bool}(h:∀ r k,M r k=true↔Dm G l r k):zfB (l ++ mkI G M G.nk G.prods.length)=clL G l:=by
 unfold clL;rw[zs6 h]
section
variable {R0 R:Nat->Prop} {B cb gb tb sb mb lb:Nat} {G:Gm} {l:List It} {P:Nat->Bool} {A:Nat->Nat} {OO:Nat->Nat->Prop} {LO:Nat->Prop} {n:Nat} {M:Nat->Nat->Bool} {H:Nat->Bool} {cnt:Nat} {w w2 w3:World}
theorem zuP(hlt:65536<(clL G l).length)(h:ClS R B cb gb tb sb mb lb G P A OO LO n M H cnt w2)(h1:∀ k,R0 k->R k)(h2:∀ k,R k->R0 k\/w.heap.size<=k)(hf:Fr (λk=>k=tb) w w2):zhw R0 B cb gb tb G l w (.returned (.tuple #[.slice none 0 0,.int .i64 7])) w2:=by
 have e1:clR G l=[]:=if_neg (by omega);have e2:clV G l=7:=if_neg (by omega);unfold zhw;rw[e1,e2];exact⟨none,0,rfl,World.ownsRow_nil _ _ _ _,hf,R,h.cl,h.rt,h1,h2,h.rl⟩
theorem zwM(hle:(clL G l).length<=65536)(h:ClS R B cb gb tb sb mb lb G P A OO LO n M H cnt w2)(h1:∀ k,R0 k->R k)(h2:∀ k,R k->R0 k\/w.heap.size<=k)(hf:Fr (λk=>k=tb) w w2)(hs:w.heap.size<=w2.heap.size)(hb:Below w2.heap.size w2 w3){a:Option Addr}{c:Nat}(ho:w3.ownsRow w2.heap.size 57 3 (.slice a (clL G l).length c) (clL G l).length (zaE (clL G l))):zhw R0 B cb gb tb G l w (.returned (.tuple #[.slice a (clL G l).length c,.int .i64 0])) w3:=by
 have e1:clR G l=clL G l:=if_pos hle;have e2:clV G l=0:=if_pos hle;have h3:=zbs h hb;unfold zhw;rw[e1,e2];exact⟨a,c,rfl,zaR ho hs,zcK hf (zae hb),R,h3.cl,h3.rt,h1,h2,h3.rl⟩
end
theorem zeS(R0:Nat->Prop)(B cb gb tb:Nat)(G:Gm)(hG:GOk G)(w:World)(hc0:ClB R0 B w cb gb tb G)(ht:RsT R0 w G tb)(hR0:∀ k,R0 k->k<w.heap.size)(htab:Tb w.heap.size w)(ia:Option Addr)(ic:Nat)(l:List It)(hl:l.length<=1000000000)(hit:∀ x,x ∈ l->zcv G x=true)(hi:zcy w.heap.size w ia l)(hia:∀ x,ia=some x->x.block≠tb) :
 Calls Tryz.prog 34 #[.pointer (some ⟨cb,0,none⟩),.slice ia l.length ic] w λe w'=>zhw R0 B cb gb tb G l w e w':=by
 have HBg:=zaa (zrf R0 B cb gb tb G w hc0 ht hR0);have Hc0:=zaa hc0;have Ht:=zaa ht;have Htab:=zaa htab;have Hi:=zaa hi;clear hc0 ht htab hi;go_enter Tryz.func34,Tryz.ntmps34;go_wp2_with fail;refine(uh HBg).mono ?_;rintro e wS ⟨sb,mb,lb,rfl,hS,hfS,hbS⟩;have hcw:=zm1 hS hfS;have hsl:=(zsO.1 hS.box).1;have Hcw:=zaa hcw;have HbS:=zaa hbS;clear hS hfS hcw hbS HBg;go_wp2_with fail
 go_loopw [13] (λx wr=>∃ (j:Nat) (M1:Nat->Nat->Bool) (H1:Nat->Bool),x=.int .i64 (j:Int)/\j<=l.length/\ClW R0 w.heap.size B cb gb tb sb mb lb G (λ_=>false) (λ_=>0) wS M1 H1 wr/\ClI G l j M1 H1) (λx _=>l.length - (intOf x).toNat)
 case atStart=>exact⟨0,_,_,rfl,zsK _,uh Hcw,zq7 G l⟩
 case round =>
  clear Hcw;obtain⟨j,M1,H1,rfl,hj,hw,hci⟩:=hrel;obtain⟨R1,P1,A1,OO1,LO1,n1,h1,hf1,hRR,hR1,hPA,hFr⟩:=hw;have hsz:=hFr.1;have hszS:=(uh HbS).size;have hFw:Fr (λk=>k=tb\/w.heap.size<=k) w wr:=zcK (zae (uh HbS)) hFr;by_cases hjl:j<l.length
  ·have hjlI:(j:Int)<(l.length:Int):=by omega
   have hir:zcy w.heap.size wr ia l:=zqj (uh Hi) (zsG _) hFw (λx hx h9=>by
    rcases h9 with h9 | h9
    ·exact hia x hx h9
    ·rcases uh Hi with h8 | ⟨b,off,h8,hlt,-⟩
     ·rw[h8] at hjl;simp at hjl
     ·rw[hx] at h8;cases h8;simp at h9;omega)
   obtain⟨b,off,rfl,hbl,q0,q1,q2⟩:=zby hir hjl;have hxm:=zbR hjl;have hxi:=hit _ hxm;have HxE:Hid (∃ x,x=l.getD j it0):=zaa ⟨_,rfl⟩;obtain⟨x,hxe⟩:=uh HxE;rw[<- hxe] at q0 q1 q2 hxm hxi;have Hxe:=zaa hxe;clear hxe HxE;obtain⟨xp,xd,xk⟩:=x;obtain⟨e1,e2,e3,e4,e5,e6⟩:=of_decide_eq_true hxi;simp only at q0 q1 q2 e1 e2 e3 e4 e5 e6;obtain⟨p,rfl⟩:∃ p:Nat,xp=p:=⟨xp.toNat,by omega⟩;obtain⟨d,rfl⟩:∃ d:Nat,xd=d:=⟨xd.toNat,by omega⟩;have hk3:=hG.k3;have hkl:xk<1048576:=by unfold Gm.nk at hk3;omega
   obtain⟨W0,hW0⟩:∃ W0,W0=wr.alloc (.cells #[.int .i64 (p:Int),.int .i64 (d:Int),.int .i64 xk] 57):=⟨_,rfl⟩;have hb0:Below wr.heap.size wr W0:=by rw[hW0];exact(zsY _ _).alloc (zsG _) _
   have hbx:W0.heap[wr.heap.size]? = some (.cells #[.int .i64 (p:Int),.int .i64 (d:Int),.int .i64 xk] 57 (0,0)):=by rw[hW0];exact zsH _ _
   have hs0:W0.heap.size=wr.heap.size+1:=by rw[hW0];simp
   have HS5:Hid (∀ W:World,W.heap[wr.heap.size]? = W0.heap[wr.heap.size]?->W.cell? ⟨wr.heap.size,0,none⟩=some (.int .i64 (p:Int))/\W.cell? ⟨wr.heap.size,1,none⟩=some (.int .i64 (d:Int))/\W.cell? ⟨wr.heap.size,2,none⟩=some (.int .i64 xk)):=zaa (λW e=>by
    have h9:=e.trans hbx
    exact⟨zac h9 0 rfl,zac h9 1 rfl,zac h9 2 rfl⟩)
   have hM1:∀ q k,M1 q k=true->k<G.nk:=λq k hk=>zlJ (hci.snd q k hk)
   have HNS:Hid (∀ V:World,Below W0.heap.size W0 V->V.heap[W0.heap.size]? = some (.cells #[.int .i64 xk] 3 (0,0))->V.heap.size=W0.heap.size+1->Calls Tryz.prog 65 #[.slice (some ⟨W0.heap.size,0,none⟩) 1 1] V λe w'=>e=.returned (.pointer (some ⟨W0.heap.size+1,0,none⟩))/\Below W0.heap.size W0 w'/\∃ O,SetN w' (W0.heap.size+1) O (gF (zlh ((p:Int),(d:Int),xk)))/\∀ k,O k->W0.heap.size<=k):=zaa (λV hb hx hs=>by
    refine(zcD (some ⟨W0.heap.size,0,none⟩) 1 [xk] (by simp) (λy hy=>by rw[List.mem_singleton] at hy;rw[hy];omega) V (.inr ⟨_,0,rfl,by omega,λi hi=>?_⟩)).mono ?_
    ·obtain rfl:i=0:=by simp at hi;omega
     exact zac hx 0 rfl
    ·rintro e w' ⟨rfl,hb',O,h2,h3⟩;rw[hs] at h2 h3
     exact⟨by rw[hs],hb.trans (zab hb' hb.size),O,by rw[<- zwk e5 ((p:Int),(d:Int),xk) rfl];exact h2,λk hk=>by have:=h3 k hk;omega⟩)
   have HLay:Hid (∀ (V:World) (O:Nat->Prop),Below W0.heap.size W0 V->SetN V (W0.heap.size+1) O (gF (zlh ((p:Int),(d:Int),xk)))->(∀ k,O k->W0.heap.size<=k)->Calls Tryz.prog 67 #[.pointer (some ⟨sb,0,none⟩),.agg #[.int .i64 (p:Int),.int .i64 (d:Int)],.pointer (some ⟨W0.heap.size+1,0,none⟩)] V λe w'=>e=.returned (.tuple #[])/\w'.heap[wr.heap.size]? = W0.heap[wr.heap.size]?/\∃ (M2:Nat->Nat->Bool) (H2:Nat->Bool),ClW R0 w.heap.size B cb gb tb sb mb lb G (λ_=>false) (λ_=>0) wS M2 H2 w'/\ClI G l (j+1) M2 H2):=zaa (λV O hbV hsO hO=>by
    have hbwV:Below wr.heap.size wr V:=hb0.trans (zab hbV hb0.size);have hVs:=hbV.size;obtain⟨i1,i2,i3,i4,i5⟩:=zdu h1;have hsb:=(zsO.1 h1.box).1;have hmb:=zc7 h1.mp;have htb:tb<wr.heap.size:=by obtain⟨_,cs,htc,-⟩:=h1.rt;exact(zsO.1 htc).1
    have hadd:=zwT (zbs h1 hbwV) (b:=wr.heap.size) (by omega) (by omega) (by omega) (by omega) (λhL=>by have:=zgX h1.ls hL;omega) (λq hq hk=>by have:=zaO (h1.set q hq) hk;omega);refine(zp8 _ w.heap.size B cb gb tb sb mb lb G hG P1 A1 OO1 LO1 n1 M1 H1 V (by omega) hadd hf1 hM1 (zlh ((p:Int),(d:Int),xk)) (λk hk=>by have:=of_decide_eq_true hk;unfold Gm.nk;simp only at this;omega) p d xk (by omega) (by omega) (W0.heap.size+1) (.inl ⟨O,hsO,λq hq k hk hk'=>by have:=zaO (h1.set q hq) hk';have:=hO k hk;omega⟩)).mono ?_;intro e w' hp;have hfR:=zp9 hp (λh9=>h9.elim h1.rt.1 (λe=>by omega));obtain⟨rfl,M2,H2,hw2,hm2⟩:=zkd hp;refine⟨rfl,(hfR.2.1 wr.heap.size (by omega) (λh9=>h9 (.inr rfl))).trans (hbV.block _ (by omega)),M2,H2,?_,?_⟩
    ·exact zkA (λk hk=>.inl (hRR k hk)) (λk hk=>hk.elim (hR1 k) (λe=>.inr (by rw[e];exact hsz))) hPA (zcK hFr (zae hbwV)) hw2
    ·have hxe:l.getD j it0=((p:Int),(d:Int),xk):=(uh Hxe).symm
     cases hat:atR G ((p:Int),(d:Int),xk) with
     | none =>
       rw[hat] at hm2;obtain⟨rfl,rfl⟩:=hm2;exact zt3 hci (λr hr=>by rw[hxe] at hr;rw[atR_iff.2 hr] at hat;cases hat)
     | some r =>
       rw[hat] at hm2;obtain⟨rfl,ho,hc⟩:=hm2;have hsy:=atR_iff.1 hat;have hrow:∀ y,y ∈ zdA G ((p:Int),(d:Int),xk)->0<=y:=λy hy=>by
        have:=zbe hG (p:=(p:Int)) (by omega) (by omega) y (List.mem_of_mem_drop hy);omega
       have hsk:∀ k,zb2 G (zdA G ((p:Int),(d:Int),xk)) (zlh ((p:Int),(d:Int),xk)) k=true->k<G.nk:=λk hk=>by
        rcases lookB_iff.1 hk with h9 | ⟨-,h9⟩
        ·exact zjn hG hrow h9
        ·have:=of_decide_eq_true h9;unfold Gm.nk;simp only at this;omega
       have h2:=zwN hci (S:=zb2 G (zdA G ((p:Int),(d:Int),xk)) (zlh ((p:Int),(d:Int),xk))) (λk hk=>.base _ hxm r hsy k hk (hsk k hk)) ho (hc.imp (λh=>⟨h.1,h.2.imp (λ_ h=>h.1)⟩) id)
       exact zt4 h2 (r:=r) (by rw[hxe];exact hsy) (λk hk hlk=>layM_iff.2 (.inr ⟨rfl,by rw[hxe] at hlk;exact hlk⟩)))
   clear h1 hf1 hRR hR1 hPA hFr hFw hir hM1 hci hxm hxi hsz hszS;have hlt0:wr.heap.size<W0.heap.size:=by omega
   clear hs0;go_wp2_with fail;rw[<- hW0];clear hW0;refine wp_region_held_drew (S:=(λW:World=>W.cell? ⟨wr.heap.size,0,none⟩=some (.int .i64 (p:Int))/\W.cell? ⟨wr.heap.size,1,none⟩=some (.int .i64 (d:Int))/\W.cell? ⟨wr.heap.size,2,none⟩=some (.int .i64 xk))) (by kernel_rfl) (uh HS5 _ rfl) (λhZ=>?_);refine zad 0 17 rfl rfl hZ (λw ⟨k0,k1,k2⟩=>by go_simp;try rfl) ?_;simp only[Act.put,zsA,zsB,zsC];refine zad 1 18 rfl rfl hZ (λw ⟨k0,k1,k2⟩=>by go_simp;try rfl) ?_;simp only[Act.put,zsA,zsB,zsC];refine zad 2 19 rfl rfl hZ (λw ⟨k0,k1,k2⟩=>by go_simp;try rfl) ?_;simp only[Act.put,zsA,zsB,zsC];refine zad 3 20 rfl rfl hZ (λw ⟨k0,k1,k2⟩=>by go_simp;try rfl) ?_;simp only[Act.put,zsA,zsB,zsC];refine zad 4 21 rfl rfl hZ (λw ⟨k0,k1,k2⟩=>by go_simp;try rfl) ?_;simp only[Act.put,zsA,zsB,zsC];refine zad 5 22 rfl rfl hZ (λw ⟨k0,k1,k2⟩=>by go_simp;try rfl) ?_;simp only[Act.put,zsA,zsB,zsC];refine zad 6 23 rfl rfl hZ (λw ⟨k0,k1,k2⟩=>by go_simp;try rfl) ?_;simp only[Act.put,zsA,zsB,zsC];refine zad 7 24 rfl rfl hZ (λw ⟨k0,k1,k2⟩=>by go_simp;try rfl) ?_;simp only[Act.put,zsA,zsB,zsC];refine zai 8 rfl λK hK=>?_;go_simp;have hbA:Below W0.heap.size W0 (W0.drew.alloc (.cells #[.int .i64 xk] 3)):=(zsY _ _).drew.alloc (by simp) _;have hxA:(W0.drew.alloc (.cells #[.int .i64 xk] 3)).heap[W0.heap.size]? = some (.cells #[.int .i64 xk] 3 (0,0)):=zsH W0.drew _;have hsA:(W0.drew.alloc (.cells #[.int .i64 xk] 3)).heap.size=W0.heap.size+1:=by simp
   refine hK.out _ _ (uh HS5 _ (hbA.block _ (by omega))) (λhZ=>?_);clear hK K;refine zai 9 rfl λK hK=>?_;go_simp;refine(uh HNS _ hbA hxA hsA).mono ?_;rintro e V2 ⟨rfl,hbV2,O2,hs2,hO2⟩;have Hs2:=zaa (And.intro hs2 hO2);clear hs2 hO2;go_wp2_with fail;refine hK.out _ _ (uh HS5 _ (hbV2.block _ (by omega))) (λhZ=>?_);clear hK K;refine zai 10 rfl λK hK=>?_;go_simp;refine(uh HLay V2 O2 hbV2 (uh Hs2).1 (uh Hs2).2).mono ?_;rintro e V3 ⟨rfl,hx3,hw3⟩;have Hw3:=zaa hw3;clear hw3;go_wp2_with fail;refine hK.out _ _ (uh HS5 _ hx3) (λhZ=>?_);clear hK K;refine wpAnyH_done (by kernel_rfl) ?_ _;clear hbA hxA hsA hbV2 Hs2 hx3 HS5 HNS HLay hZ;go_wp2;obtain⟨M2,H2,hw2,hc2⟩:=uh Hw3;have Hw2:=zaa hw2;have Hc2:=zaa hc2;clear hw2 hc2 Hw3;go_roundw
   case rel=>exact⟨j+1,M2,H2,by go_num,by omega,uh Hw2,uh Hc2⟩
   case measure=>simp[intOf];omega
  ·obtain rfl:j=l.length:=by omega
   have hjlI:¬ ((l.length:Nat):Int)<(l.length:Int):=by omega
   have hcf:Fr (λk=>¬ R0 k) w wr:=zaj hFw (λk _ h9 hR=>by
    rcases h9 with h9 | h9
    ·exact(uh Ht).1 (h9▸hR)
    ·have:=hR0 k hR;omega)
   have HCl:=zaa (zoi R1 R0 w.heap.size B cb gb tb sb mb lb G hG P1 A1 OO1 LO1 n1 M1 H1 wr (by omega) h1 hf1 (zbb (uh Hc0) hcf) (λk hR=>⟨hR0 k hR,λe=>(uh Ht).1 (e▸hR)⟩) l hit hci);have HR1:=zaa (λk (hk:R1 k)=>(hR1 k hk).imp id (λh9=>zsy hszS h9));have HRR:=zaa hRR;have HFw:=zaa hFw;clear h1 hf1 hRR hR1 hPA hFr hci hcf hFw;go_wp2_with fail;refine(uh HCl).mono ?_;intro e w2 hp;obtain⟨M2,H2,⟨R2,P2,A2,OO2,LO2,n2,h2,hf2,hRR2,hR2,-,hF2⟩,hci2,hc⟩:=hp;have hFw2:Fr (λk=>k=tb\/w.heap.size<=k) w w2:=zcK (uh HFw) hF2;have hM2:∀ q k,M2 q k=true->k<G.nk:=λq k hk=>zlJ (hci2.snd q k hk);have hcm:=zwI hG hM2;have hml:=zvW hG hci2.snd;have hR2':∀ k,R2 k->R0 k\/w.heap.size<=k:=λk hk=>by
    rcases hR2 k hk with h9 | h9
    ·exact uh HR1 k h9
    ·exact .inr (by have:=(uh HFw).1;omega)
   have hsw2:=hFw2.1;have hF3:Fr (λk=>k=tb) w w2:=⟨hFw2.1,λk hk ho=>hFw2.2.1 k hk (λh9=>h9.elim ho (λh8=>by omega)),hFw2.2.2⟩;rcases hc with ⟨rfl,hH,hcnt⟩ | ⟨rfl,hcnt⟩
   ·have hM:∀ r k,M2 r k=true↔Dm G l r k:=λr k=>zwO hci2 hH
    have hcf2:Fr (λk=>¬ R0 k) w w2:=zaj hFw2 (λk _ h9 hR=>by
     rcases h9 with h9 | h9
     ·exact(uh Ht).1 (h9▸hR)
     ·have:=hR0 k hR;omega)
    have hir:zcy w.heap.size w2 ia l:=by
     rcases uh Hi with h8 | ⟨b,off,h8,hlt,hcc⟩
     ·exact .inl h8
     ·refine zqj (.inr ⟨b,off,h8,hlt,hcc⟩) (zsG _) hFw2 (λx hx h9=>?_);rcases h9 with h9 | h9
      ·exact hia x hx h9
      ·rw[hx] at h8;cases h8;simp at h9;omega
    have HWi:=zaa (zoA R2 R0 B cb gb tb sb mb lb G hG P2 A2 OO2 LO2 n2 M2 H2 _ w2 h2 (zbb (uh Hc0) hcf2) (λk hR=>by have:=hR0 k hR;omega) (zrZ (uh Htab) (uh Ht) (uh Htab).1 hFw2) hM2 ia ic l hl (zaI hir hsw2));rw[clL_mk hM] at HWi;have Hrest:=zaa (And.intro h2 (And.intro (λk hk=>hRR2 k (uh HRR k hk)) (And.intro hR2' hF3)));clear h2 hf2 hRR2 hR2 hF2 hci2 hM2 hcm hml hR2' hF3 hFw2 hM hcf2 hir hcnt hH HCl;go_wp2_with fail;refine(uh HWi).mono ?_;rintro e w3 ⟨a3,c3,rfl,hown3,hb3⟩;obtain⟨h2,hRR2,hR2',hF3⟩:=uh Hrest;have HYes:=zaa (λhle=>zwM hle h2 hRR2 hR2' hF3 hsw2 hb3 hown3);have HNo:=zaa (λhlt=>zuP (l:=l) hlt (zbs h2 hb3) hRR2 hR2' (zcK hF3 (zae hb3)));clear h2 hRR2 hR2' hF3 hb3 hown3 Hrest HWi;obtain⟨nn,hnn⟩:∃ nn,nn=(clL G l).length:=⟨_,rfl⟩;rw[<- hnn] at HYes HNo;rw[<- hnn];have Hnn:=zaa hnn;clear hnn;by_cases hle:nn<=65536
    ·have hcond:¬ (65536:Int)<(nn:Int):=by omega
     go_wp2;refine bodyPost_ret (v:=.tuple #[.slice a3 nn c3,.int .i64 0]) ?zz1 rfl (uh HYes hle)
     case zz1=>simp[results,Tryz.results34,go_sem]
    ·have hcond:(65536:Int)<(nn:Int):=by omega
     go_wp2;refine bodyPost_ret (v:=.tuple #[.slice none 0 0,.int .i64 7]) ?zz2 rfl (uh HNo (by omega))
     case zz2=>simp[results,Tryz.results34,go_sem]
   ·have HNo:=zaa (zuP (l:=l) (by omega) h2 (λk hk=>hRR2 k (uh HRR k hk)) hR2' hF3);clear h2 hf2 hRR2 hR2 hF2 hci2 hM2 hcm hml hR2' hF3 hFw2 hcnt HCl;go_wp2;refine bodyPost_ret (v:=.tuple #[.slice none 0 0,.int .i64 7]) ?zz3 rfl (uh HNo)
    case zz3=>simp[results,Tryz.results34,go_sem]
theorem zwe:(Tryz.prog.info? 240).map (λi=>(i.zero,i.size,i.bytes))=some (some (.slice none 0 0),1,24):=by kernel_rfl
theorem zwi:(Tryz.prog.info? 110).map (λi=>(i.zero,i.size,i.bytes))=some (some (.pointer none),1,8):=by kernel_rfl
def TyI(W:World)(k:Nat):Prop:=∃ cs t,W.heap[k]? = some (.cells cs t (0,0))/\(t=50\/t=3)
theorem tyI_of{W W':World}{k:Nat}(h:TyI W k)(e:W'.heap[k]? = W.heap[k]?):TyI W' k:=by
 obtain⟨cs,t,h1,h2⟩:=h;exact⟨cs,t,e.trans h1,h2⟩
theorem zhL{W:World}{k b:Nat}(h:TyI W k){cs:Array Value}{t:TypeId}{f:Nat × Nat}(hb:W.heap[b]? = some (.cells cs t f))(h1:t≠50)(h2:t≠3):k≠b:=λe=>by
 obtain⟨ds,u,g1,g2⟩:=h;rw[e,hb] at g1
 cases g1
 rcases g2 with g2 | g2
 ·exact h1 g2
 ·exact h2 g2
theorem znm{W:World}{k:Nat}(h:TyI W k):¬ zcr W k:=by
 obtain⟨ds,u,g1,rfl | rfl⟩:=h
 ·exact zaq g1 (by decide) (by decide)
 ·exact zaq g1 (by decide) (by decide)
theorem zu7{W:World}{k:Nat}(h:TyI W k){B:Nat}{e:TypeId}{s:Nat}{v:Value}{n:Nat}{xs:List Value}(hr:W.ownsRow B e s v n xs)(h1:e≠50)(h2:e≠3):some k≠v.ownBlock:=by
 rcases hr.2 with ⟨rfl,_⟩ | ⟨g,cap,cur,rfl,_,hg,_⟩
 ·simp[Value.ownBlock]
 ·intro e';have e':k=g:=by simpa [Value.ownBlock] using e'
  exact zhL h hg h1 h2 e'
theorem zjC{O:Nat->Prop}{w:World}{ob n:Nat}{F:Nat->List Int}(h:zbB O w ob n F):∃ O',zbB O' w ob n F/\∀ k,O' k->O k/\TyI w k:=by
 obtain⟨V,hV⟩:=h;refine⟨λk=>k=ob\/∃ r,r<n/\(V r).ownBlock=some k,⟨V,.inl rfl,λk hk=>?_,hV.row,λr hr=>⟨(hV.rows r hr).1,λk hk=>.inr ⟨r,hr,hk⟩⟩,hV.apart⟩,λk hk=>?_⟩
 ·rcases hk with rfl | ⟨r,hr,hk⟩
  ·exact hV.lt _ hV.own
  ·exact hV.lt _ ((hV.rows r hr).2 k hk)
 ·rcases hk with rfl | ⟨r,hr,hk⟩
  ·obtain⟨cs,h1,-⟩:=hV.row;exact⟨hV.own,cs,50,h1,.inl rfl⟩
  ·refine⟨(hV.rows r hr).2 k hk,?_⟩;rcases(hV.rows r hr).1.2 with ⟨e,_⟩ | ⟨g,cap,cur,e,_,hg,_⟩
   ·rw[e] at hk;simp[Value.ownBlock] at hk
   ·rw[e] at hk;obtain rfl:g=k:=by simpa [Value.ownBlock] using hk
    exact⟨_,3,hg,.inr rfl⟩
structure NcI (lo nr np gb:Nat) (na:Option Addr) (nc:Nat) (W1 W:World) (cb ob tb:Nat) (fv:Value) (vs:List Value) (F:Nat->List Int):Prop where
 box:W.heap[cb]? = some (.cells #[.pointer (some ⟨gb,0,none⟩),.slice na nr nc,fv,.slice (some ⟨ob,0,none⟩) nr nr,.slice (some ⟨tb,0,none⟩) (np+1) (np+1)] 109 (0,0))
 lc:lo<=cb
 lt:lo<=tb
 tab:W.heap[tb]? = some (.cells (madeCells #[.slice none 0 0] (np+1)) 240 (0,0))
 row:W.ownsRow lo 110 1 fv vs.length vs
 own:∃ O,zbB O W ob nr F/\∀ k,O k->lo<=k/\TyI W k
 bl:Below lo W1 W
theorem zfR(W:World)(b i:Nat)(v:Value):W.grownBy (W.setCell ⟨b,i,none⟩ v) (some b) :=
 ⟨rfl,rfl,rfl,(KeepsWalks.setCell W _ v).size,λk _ hk=>Below.heap_setCell _ _ _ k (λe=>hk (by rw[e]))⟩
theorem zmC{lo nr np gb:Nat}{na:Option Addr}{nc:Nat}{W1 W:World}{cb ob tb:Nat}{fv:Value}{vs:List Value}{F:Nat->List Int}(h:NcI lo nr np gb na nc W1 W cb ob tb fv vs F)(hlo:lo<=W.heap.size){V2 W6:World}(hb:Below W.heap.size W V2){tmp:Obj}(hg:(V2.alloc tmp).grownBy W6 fv.ownBlock){g cap:Nat}{u:Value}
 (ho:W6.ownsRow lo 110 1 (.slice (some ⟨g,0,none⟩) (vs.length+1) cap) (vs.length+1) (vs ++ [u])) (hw:fv.ownBlock=some g\/g=(V2.alloc tmp).heap.size) :
 W6.heap[cb]? = W.heap[cb]?/\NcI lo nr np gb na nc W1 (W6.setCell ⟨cb,2,none⟩ (.slice (some ⟨g,0,none⟩) (vs.length+1) cap)) cb ob tb (.slice (some ⟨g,0,none⟩) (vs.length+1) cap) (vs ++ [u]) F/\∀ Z O f,SetN V2 Z O f->SetN (W6.setCell ⟨cb,2,none⟩ (.slice (some ⟨g,0,none⟩) (vs.length+1) cap)) Z O f:=by
 have hb3:Below W.heap.size W (V2.alloc tmp):=hb.alloc hb.size _;have hs3:=hb3.size;have hs23:(V2.alloc tmp).heap.size=V2.heap.size+1:=by simp
 have hs2:=hb.size;have hkeep:∀ {k:Nat} {o:Obj},W.heap[k]? = some o->some k≠fv.ownBlock->W6.heap[k]? = some o:=fun {k o} hk hn=>by
  have hkl:=(zsO.1 hk).1;exact(hg.block k (by omega) hn).trans ((hb3.block k hkl).trans hk)
 have hcb:=hkeep h.box (zc8 h.row h.box (by decide));have htb:=hkeep h.tab (zc8 h.row h.tab (by decide));have hf6:Fr (λk=>some k=fv.ownBlock) (V2.alloc tmp) W6:=⟨hg.size,λk hk ho=>hg.block k hk ho,hg.os,hg.tape,hg.output⟩;have hf7:Fr (λk=>k=cb) W6 (W6.setCell ⟨cb,2,none⟩ (.slice (some ⟨g,0,none⟩) (vs.length+1) cap)):=zaD (zax (λx=>x=cb) W6) (p:=⟨cb,2,none⟩) rfl _;have hcl:=(zsO.1 hcb).1;have htn:tb≠cb:=zav h.tab h.box (by decide);refine⟨hcb.trans h.box.symm,⟨?_,h.lc,h.lt,(hf7.2.1 tb (zsO.1 htb).1 htn).trans htb,?_,?_,?_⟩,λZ O f hs=>?_⟩
 ·rw[Wk.block_set hcb];rfl
 ·have:=ho.kept (zfR W6 cb 2 (.slice (some ⟨g,0,none⟩) (vs.length+1) cap)) (.inr (zc8 ho hcb (by decide)).symm);rw[zsI];exact this
 ·obtain⟨O,h1,h2⟩:=h.own;have hOl:∀ k,O k->k<W.heap.size:=by obtain⟨V,hV⟩:=h1;exact hV.lt
  have hnf:∀ k,O k->some k≠fv.ownBlock:=λk hk=>zu7 (h2 k hk).2 h.row (by decide) (by decide);have hnc:∀ k,O k->k≠cb:=λk hk=>zhL (h2 k hk).2 h.box (by decide) (by decide);refine⟨O,zeE (zeE (zaK h1 hb3) hf6 (λk hk e=>hnf k hk e)) hf7 (λk hk e=>hnc k hk e),λk hk=>⟨(h2 k hk).1,tyI_of (h2 k hk).2 ?_⟩⟩;have hkl:=hOl k hk;exact(hf7.2.1 k (by have:=hg.size;omega) (hnc k hk)).trans ((hg.block k (by omega) (hnf k hk)).trans (hb3.block k hkl))
 ·have b6:Below lo W1 W6:=((h.bl.trans (zab hb3 hlo))).grown hg (by omega) (λj hj=>(h.row.lt j hj).1);exact b6.setCell (p:=⟨cb,2,none⟩) h.lc _
 ·have hs':SetN (V2.alloc tmp) Z O f:=zaz hs (zae (O:=λ_=>False) ((zsY _ _).alloc (zsG _) _)) (λ_ _ h=>h);have hty:∀ k,zcr (V2.alloc tmp) k->some k≠fv.ownBlock:=λk hi e=>by
   rcases h.row.2 with ⟨rfl,_⟩ | ⟨g',cap',cur,rfl,_,hg',_⟩
   ·simp[Value.ownBlock] at e
   ·have e:k=g':=by simpa [Value.ownBlock] using e
    subst e;exact zaq ((hb3.block k (zsO.1 hg').1).trans hg') (by decide) (by decide) hi
  have h6:SetN W6 Z O f:=zaz hs' hf6 (λk hk e=>hty k (hs'.ty k hk) e);exact zaz h6 hf7 (λk hk e=>zaq hcb (by decide) (by decide) (e▸h6.ty k hk))
theorem ziO{lo:Nat}{O:Nat->Prop}{W:World}{ob nr:Nat}{F:Nat->List Int}(h:zbB O W ob nr F)(hO:∀ k,O k->lo<=k):∃ O,zbB O W ob nr F/\∀ k,O k->lo<=k/\TyI W k:=by
 obtain⟨O',h1,h2⟩:=zjC h;exact⟨O',h1,λk hk=>⟨hO k (h2 k hk).1,(h2 k hk).2⟩⟩
theorem zvO{lo nr np gb:Nat}{na:Option Addr}{nc:Nat}{W1 W W2 W7:World}{cb ob tb:Nat}{fv:Value}{vs:List Value}{F F':Nat->List Int}(h:NcI lo nr np gb na nc W1 W cb ob tb fv vs F)(hb:Below W.heap.size W W2){O O':Nat->Prop}(hO:∀ k,O k->lo<=k/\TyI W k)(hlo:lo<=W.heap.size)(ht:zbB O' W7 ob nr F')(hO':∀ k,O' k->O k\/W2.heap.size<=k)(hf:Fr O W2 W7) :
 NcI lo nr np gb na nc W1 W7 cb ob tb fv vs F'/\∀ Z Q f,SetN W Z Q f->SetN W7 Z Q f:=by
 have hs2:=hb.size;have hs7:=hf.1;have hkeep:∀ {k:Nat} {o:Obj},W.heap[k]? = some o->¬ O k->W7.heap[k]? = some o:=fun {k o} hk hn=>by
  have hkl:=(zsO.1 hk).1;exact(hf.2.1 k (by omega) hn).trans ((hb.block k hkl).trans hk)
 refine⟨⟨hkeep h.box (λho=>zhL (hO _ ho).2 h.box (by decide) (by decide) rfl),h.lc,h.lt,hkeep h.tab (λho=>zhL (hO _ ho).2 h.tab (by decide) (by decide) rfl),?_,ziO ht (λk hk=>(hO' k hk).elim (λh9=>(hO k h9).1) (λh9=>by omega)),?_⟩,λZ Q f hs=>?_⟩
 ·refine⟨h.row.1,?_⟩;rcases h.row.2 with h9 | ⟨g,cap,cur,e1,e2,e3,e4⟩
  ·exact .inl h9
  ·exact .inr ⟨g,cap,cur,e1,e2,hkeep e3 (λho=>zhL (hO _ ho).2 e3 (by decide) (by decide) rfl),e4⟩
 ·exact(h.bl.trans (zab hb hlo)).trans (zau hf (by omega) (λk hk=>(hO k hk).1))
 ·exact zaz (zaz hs (zae (O:=λ_=>False) hb) (λ_ _ h=>h)) hf (λk hk ho=>znm (hO k ho).2 (hs.ty k hk))
theorem zvP(nr np gb:Nat)(na:Option Addr)(nc:Nat)(W1:World) :
 NcI W1.heap.size nr np gb na nc W1 (((W1.drew.alloc (.cells (madeCells #[.slice none 0 0] nr) 50)).alloc (.cells (madeCells #[.slice none 0 0] (np+1)) 240)).alloc (.cells #[.pointer (some ⟨gb,0,none⟩),.slice na nr nc,.slice none 0 0,.slice (some ⟨W1.heap.size,0,none⟩) nr nr,.slice (some ⟨W1.heap.size+1,0,none⟩) (np+1) (np+1)] 109)) (W1.heap.size+1+1) W1.heap.size (W1.heap.size+1) (.slice none 0 0) [] (λ_=>[]) /\
 NcI W1.heap.size nr np gb na nc W1 (((W1.drew.alloc (.cells (madeCells #[.slice none 0 0] (np+1)) 240)).alloc (.cells (madeCells #[.slice none 0 0] nr) 50)).alloc (.cells #[.pointer (some ⟨gb,0,none⟩),.slice na nr nc,.slice none 0 0,.slice (some ⟨W1.heap.size+1,0,none⟩) nr nr,.slice (some ⟨W1.heap.size,0,none⟩) (np+1) (np+1)] 109)) (W1.heap.size+1+1) (W1.heap.size+1) W1.heap.size (.slice none 0 0) [] (λ_=>[]):=by
 have key:∀ (X Y Z:Obj) (V0 A D E:World),V0=W1.drew->A=V0.alloc X->D=A.alloc Y->E=D.alloc Z->A.heap.size=W1.heap.size+1/\D.heap.size=W1.heap.size+1+1/\Below A.heap.size A D/\Below D.heap.size D E/\Below W1.heap.size W1 E/\E.heap[W1.heap.size]? = A.heap[W1.heap.size]?/\E.heap[W1.heap.size+1]? = D.heap[W1.heap.size+1]?/\D.heap[W1.heap.size+1]? = (A.alloc Y).heap[A.heap.size]?/\E.heap[W1.heap.size+1+1]? = (D.alloc Z).heap[D.heap.size]?:=by
  rintro X Y Z V0 A D E rfl rfl rfl rfl;have s1:(W1.drew.alloc X).heap.size=W1.heap.size+1:=by simp
  have s2:((W1.drew.alloc X).alloc Y).heap.size=W1.heap.size+1+1:=by simp
  have b1:Below W1.heap.size W1 (W1.drew.alloc X):=(zsY _ _).drew.alloc (by simp) _;have b2:Below (W1.drew.alloc X).heap.size (W1.drew.alloc X) ((W1.drew.alloc X).alloc Y):=(zsY _ _).alloc (zsG _) _;have b3:Below ((W1.drew.alloc X).alloc Y).heap.size ((W1.drew.alloc X).alloc Y) (((W1.drew.alloc X).alloc Y).alloc Z):=(zsY _ _).alloc (zsG _) _;refine⟨s1,s2,b2,b3,b1.trans (zab (b2.trans (zab b3 b2.size)) b1.size),?_,b3.block _ (by omega),by rw[s1],by rw[s2]⟩;rw[b3.block _ (by omega),b2.block _ (by omega)]
 constructor
 ·obtain⟨s1,s2,b2,b3,b4,-,e2,e3,e4⟩:=key _ _ _ _ _ _ _ rfl rfl rfl rfl;refine⟨e4.trans (zsH _ _),by omega,by omega,(e2.trans e3).trans (zsH _ _),World.ownsRow_nil _ _ _ _,ziO (zaK (zaK (zeF W1.drew nr) b2) b3) (λk hk=>by have hk:k=W1.heap.size:=hk;omega),b4⟩
 ·obtain⟨s1,s2,b2,b3,b4,e1,e2,e3,e4⟩:=key (.cells (madeCells #[.slice none 0 0] (np+1)) 240) (.cells (madeCells #[.slice none 0 0] nr) 50) (.cells #[.pointer (some ⟨gb,0,none⟩),.slice na nr nc,.slice none 0 0,.slice (some ⟨W1.heap.size+1,0,none⟩) nr nr,.slice (some ⟨W1.heap.size,0,none⟩) (np+1) (np+1)] 109) _ _ _ _ rfl rfl rfl rfl;have ht:=zeF (W1.drew.alloc (.cells (madeCells #[.slice none 0 0] (np+1)) 240)) nr;rw[s1] at ht;refine⟨e4.trans (zsH _ _),by omega,by omega,e1.trans (zsH W1.drew _),World.ownsRow_nil _ _ _ _,ziO (zaK ht b3) (λk hk=>by have hk:k=W1.heap.size+1:=hk;omega),b4⟩
theorem zpY(z:Value)(n:Nat):∃ l:List Value,madeCells #[z] n=l.toArray/\l.length=n/\∀ i,i<n->l[i]? = some z:=by
 refine⟨(madeCells #[z] n).toList,by simp,by simp[madeCells],λi hi=>?_⟩;rw[Array.getElem?_toList];simp[madeCells,hi,Nat.mod_one]
theorem zvH{G:Gm}(hG:GOk G)(r:Nat):zbF G G.prods.length r=zfA G r:=by
 unfold zbF zfA;rw[zhW hG]
theorem zoh{G:Gm}(hG:GOk G){B gb:Nat}{w w1 W1 W:World}{na:Option Addr}{nc cb ob tb:Nat}{fv:Value}{vs:List Value}(hgm:GmB B w gb G)(hB:B<=w.heap.size)(hb:Below w.heap.size w W)(hlo:w.heap.size<=W1.heap.size)(hn:zxy w1 na (zay (zat G) G.nr))(hlo1:w1.heap.size<=W1.heap.size)(hb1:Below w1.heap.size w1 W)
 (h:NcI W1.heap.size G.nr G.prods.length gb na nc W1 W cb ob tb fv vs (zbF G G.prods.length)) {fa:Option Addr} {fc:Nat} (hfv:fv=.slice fa G.nr fc) (hvl:vs.length=G.nr) (hs:∀ q,q<G.nr->∃ Z O,vs[q]? = some (.pointer (some ⟨Z,0,none⟩))/\SetN W Z O (fsF G q)/\∀ i,O i->W1.heap.size<=i) :
 ClB (λk=>k<W.heap.size/\k≠tb) B W cb gb tb G/\RsT (λk=>k<W.heap.size/\k≠tb) W G tb/\w.heap.size<=tb/\tb<W.heap.size:=by
 have hr1:=hG.r1;have htl:=(zsO.1 h.tab).1;have hcl:=(zsO.1 h.box).1;have htb:=h.lt;have hWs:=h.bl.size;obtain⟨O0,hT0,-⟩:=h.own;obtain⟨O,hT,-⟩:=zjC hT0;obtain⟨V,hV⟩:=hT;obtain⟨ocs,hob,-⟩:=hV.row;have hobt:ob≠tb:=zav hob h.tab (by decide);have hbx:=h.box;rw[hfv] at hbx;refine⟨⟨na,nc,fa,fc,some ⟨ob,0,none⟩,G.nr,G.prods.length+1,hbx,⟨hcl,zav h.box h.tab (by decide)⟩,zaX (zab hb hB) hgm,zsy hB hb.size,λk hk=>⟨by omega,by omega⟩,λq hq=>?_,λq hq=>?_,λq hq=>?_⟩,⟨λh9=>h9.2 rfl,?_⟩,by omega,htl⟩
 ·obtain⟨b,off,e,hbl,hc⟩:=zvS hn (k:=q) (by rw[zaQ];exact hq);rw[zdY hq] at hc;exact⟨b,off,e,⟨by omega,by omega⟩,(hb1.cell (p:=⟨b,off+q,none⟩) hbl).trans hc⟩
 ·obtain⟨Z,O',h1,h2,h3⟩:=hs q hq;have hrow:=h.row;rcases hrow.2 with ⟨e,h0⟩ | ⟨g,cap,cur,e,hg1,hg2,hg3⟩
  ·omega
  ·have e2:fa=some ⟨g,0,none⟩:=by rw[hfv] at e;simpa using (Value.slice.inj e).1
   refine⟨g,0,Z,O',e2,⟨(zsO.1 hg2).1,zav hg2 h.tab (by decide)⟩,?_,h2,λk hk=>⟨zaO h2 hk,λe3=>zaq h.tab (by decide) (by decide) (e3▸h2.ty k hk)⟩⟩;have:=hrow.cells (g:=g) (by rw[e];rfl) q _ h1;rw[show (⟨g,0,none⟩:Addr).add q=⟨g,0+q,none⟩ by unfold Addr.add;split <;> simp_all] at this;exact this
 ·obtain⟨a,c,e,hc,-,-⟩:=za6 hV hq;have hrow:=(hV.rows q hq).1;rw[e] at hrow;rw[zvH hG] at hc hrow;refine⟨ob,0,a,c,rfl,⟨(zsO.1 hob).1,hobt⟩,by rw[Nat.zero_add];exact hc,?_⟩;rcases hrow.2 with ⟨-,h0⟩ | ⟨g,cap,cur,e1,hg1,hg2,hg3⟩
  ·exact .inl (zsX h0)
  ·have e2:a=some ⟨g,0,none⟩:=by simpa using (Value.slice.inj e1).1
   refine .inr ⟨g,0,e2,⟨(zsO.1 hg2).1,zav hg2 h.tab (by decide)⟩,λj hj=>?_⟩;have:=hrow.cells (g:=g) (by rw[e2];rfl) j (.int .i64 ((zfA G q).getD j 0)) (by simp[zao,List.getD_eq_getElem?_getD,List.getElem?_eq_getElem hj]);rw[show (⟨g,0,none⟩:Addr).add j=⟨g,0+j,none⟩ by unfold Addr.add;split <;> simp_all] at this;exact this
 ·obtain⟨l,e1,e2,e3⟩:=zpY (.slice none 0 0) (G.prods.length+1);exact⟨l,by rw[<- e1];exact h.tab,e2,λp hp=>.inl (e3 p (by omega))⟩
theorem zdo(hLY:zd3 64)(B gb:Nat)(G:Gm)(hc:zbK G=true)(w:World)(hB:B<=w.heap.size)(hgm:GmB B w gb G) :
 Calls Tryz.prog 33 #[.pointer (some ⟨gb,0,none⟩)] w λe w'=>∃ cb tb,e=.returned (.pointer (some ⟨cb,0,none⟩))/\w.heap.size<=tb/\tb<w'.heap.size/\ClB (λk=>k<w'.heap.size/\k≠tb) B w' cb gb tb G/\RsT (λk=>k<w'.heap.size/\k≠tb) w' G tb/\Below w.heap.size w w':=by
 have hG:=zb8 hc;have Hgm:=zaa hgm;obtain⟨ka,kc,pa,pc,ra,rc,qa,qc,wa,wc0,hlt,hbox,hin,hw,hwc⟩:=hgm;have hin':=zlE hin hB;have g0:=zac hbox 0 rfl;have g1:=zac hbox 1 rfl;have g2:=zac hbox 2 rfl;have g3:=zac hbox 3 rfl;have g4:=zac hbox 4 rfl;have HL:=zaa (hLY G hc ka pa ra qa kc pc rc qc w hin');have Hbox:=zaa hbox;have Hin:=zaa hin;clear hin hin' hw hbox;unfold gV at HL;go_enter Tryz.func33,Tryz.ntmps33;go_wp2_with fail;refine(uh HL).mono ?_;intro e w1 hp;obtain⟨na,nc,xa,xc,aa,ac,ca,cc,fa,fc,va,vc,rfl,hN,-,-,-,hF,-,hb1⟩:=hp;rw[zaQ,zaQ,zaQ,zaQ];have Hb1:=zaa hb1;have HN1:=zaa hN;have HF:=zaa hF;obtain⟨W1,hW1⟩:∃ W1,W1=w1.alloc (.cells #[.slice na G.nr nc,.slice xa G.nr xc,.slice aa G.nr ac,.slice ca G.nr cc,.slice fa (zfz (zdy G) G.nk G.nr).length fc,.slice va (zfz (zqx G) G.nk G.nr).length vc] 103):=⟨_,rfl⟩;have hbW:Below w1.heap.size w1 W1:=by rw[hW1];exact(zsY _ _).alloc (zsG _) _
 have hrb:W1.heap[w1.heap.size]? = some (.cells #[.slice na G.nr nc,.slice xa G.nr xc,.slice aa G.nr ac,.slice ca G.nr cc,.slice fa (zfz (zdy G) G.nk G.nr).length fc,.slice va (zfz (zqx G) G.nk G.nr).length vc] 103 (0,0)):=by rw[hW1];exact zsH _ _
 have hsW:W1.heap.size=w1.heap.size+1:=by rw[hW1];simp
 have hbw1:Below w.heap.size w W1:=hb1.trans (zab hbW hb1.size);have hgl:gb<w.heap.size:=by omega
 have hbx1:=(hbw1.block gb hgl).trans (uh Hbox);clear hb1 hN hF HL g0 g1 g2 g3 g4;have g0:=zac hbx1 0 rfl;have g1:=zac hbx1 1 rfl;have g2:=zac hbx1 2 rfl;have g3:=zac hbx1 3 rfl;have g4:=zac hbx1 4 rfl;have r0:=zac hrb 0 rfl;have HrB:=zaa hrb;have Hbw1:=zaa hbw1;have Hbx1:=zaa hbx1;clear hrb hbw1 hbW hbx1;have hnr:G.rules.length=G.nr:=rfl;rw[hnr] at g2;have hr2:=hG.r2;have hps:=hG.ps;have hmk:=λw=>run_make_row' (P:=Tryz.prog) 43 50 (.slice none 0 0) 24 Tryz.underlying43 zf1 rfl .i64 .i64 G.nr (by omega) (by omega) w;have hmk2:∀ w,(Instr.makeSlice 106 (.int .i64 ((G.prods.length:Int)+1)) (.int .i64 ((G.prods.length:Int)+1))).run Tryz.prog w=.ok (.slice (some ⟨w.heap.size,0,none⟩) (G.prods.length+1) (G.prods.length+1)) (w.alloc (.cells (madeCells #[.slice none 0 0] (G.prods.length+1)) 240)):=λw=>by
  have:=run_make_row' (P:=Tryz.prog) 106 240 (.slice none 0 0) 24 Tryz.underlying106 zwe rfl .i64 .i64 (G.prods.length+1) (by omega) (by omega) w;rw[Int.natCast_add] at this;exact this
 have hwr:IntKind.i64.wrap ((G.prods.length:Int)+1)=(G.prods.length:Int)+1:=by rw[IntKind.wrap_i64];omega
 have hS0:=zsY W1.heap.size W1;have HM:=zaa (zvP G.nr G.prods.length gb na nc W1)
 have HS2:Hid (∀ W:World,Below W1.heap.size W1 W->W.cell? ⟨w1.heap.size,0,none⟩=some (.slice na G.nr nc)/\W.cell? ⟨gb,2,none⟩=some (.slice ra G.nr rc)/\W.cell? ⟨gb,3,none⟩=some (.slice qa G.prods.length qc)):=zaa (λW hb=>by
  have hgW:gb<W1.heap.size:=by have:=(uh Hbw1).size;omega
  exact⟨(hb.cell (p:=⟨w1.heap.size,0,none⟩) (by show w1.heap.size<_;omega)).trans r0,(hb.cell (p:=⟨gb,2,none⟩) hgW).trans g2,(hb.cell (p:=⟨gb,3,none⟩) hgW).trans g3⟩)
 go_upto_region 2 with fail;rw[<- hW1];have HW1:=zaa hW1;have HsW:=zaa hsW;clear hW1 hsW
 go_cut [5] (λs W=>∃ cb ob tb,s=.pointer (some ⟨cb,0,none⟩)/\NcI W1.heap.size G.nr G.prods.length gb na nc W1 W cb ob tb (.slice none 0 0) [] (λ_=>[]))
 case first =>
  refine wp_region_held_drew (S:=(λW:World=>W.cell? ⟨w1.heap.size,0,none⟩=some (.slice na G.nr nc)/\W.cell? ⟨gb,2,none⟩=some (.slice ra G.nr rc)/\W.cell? ⟨gb,3,none⟩=some (.slice qa G.prods.length qc))) (by kernel_rfl) (uh HS2 _ hS0.drew) (λhZ=>?_);refine zad 0 18 rfl rfl hZ (λw ⟨k0,k1,k2⟩=>by go_simp;try rfl) ?_;simp only[Act.put,zsA,zsB,zsC];refine zad 1 19 rfl rfl hZ (λw ⟨k0,k1,k2⟩=>by go_simp;try rfl) ?_;simp only[Act.put,zsA,zsB,zsC];refine zad 2 20 rfl rfl hZ (λw ⟨k0,k1,k2⟩=>by go_simp;try rfl) ?_;simp only[Act.put,zsA,zsB,zsC];refine zad 3 21 rfl rfl hZ (λw ⟨k0,k1,k2⟩=>by go_simp;try rfl) ?_;simp only[Act.put,zsA,zsB,zsC];refine zad 4 22 rfl rfl hZ (λw ⟨k0,k1,k2⟩=>by go_simp;try rfl) ?_;simp only[Act.put,zsA,zsB,zsC];refine zad 5 23 rfl rfl hZ (λw ⟨k0,k1,k2⟩=>by go_simp;try rfl) ?_;simp only[Act.put,zsA,zsB,zsC];refine zad 6 24 rfl rfl hZ (λw ⟨k0,k1,k2⟩=>by go_simp;try rfl) ?_;simp only[Act.put,zsA,zsB,zsC];refine zad 7 25 rfl rfl hZ (λw ⟨k0,k1,k2⟩=>by go_simp;try rfl) ?_;simp only[Act.put,zsA,zsB,zsC];refine zad 8 26 rfl rfl hZ (λw ⟨k0,k1,k2⟩=>by go_simp;try rfl) ?_;simp only[Act.put,zsA,zsB,zsC];refine zad 10 28 rfl rfl hZ (λw ⟨k0,k1,k2⟩=>by go_simp;try rfl) ?_;simp only[Act.put,zsA,zsB,zsC];refine zad 11 29 rfl rfl hZ (λw ⟨k0,k1,k2⟩=>by go_simp;try rfl) ?_;simp only[Act.put,zsA,zsB,zsC];refine zad 12 30 rfl rfl hZ (λw ⟨k0,k1,k2⟩=>by go_simp;try rfl) ?_;simp only[Act.put,zsA,zsB,zsC];refine zad 13 31 rfl rfl hZ (λw ⟨k0,k1,k2⟩=>by go_simp;try rfl) ?_;simp only[Act.put,zsA,zsB,zsC];refine zad 14 32 rfl rfl hZ (λw ⟨k0,k1,k2⟩=>by go_simp;try rfl) ?_;simp only[Act.put,zsA,zsB,zsC];refine zad 15 33 rfl rfl hZ (λw ⟨k0,k1,k2⟩=>by go_simp;try rfl) ?_;simp only[Act.put,zsA,zsB,zsC];refine zad 16 34 rfl rfl hZ (λw ⟨k0,k1,k2⟩=>by go_simp;try rfl) ?_;simp only[Act.put,zsA,zsB,zsC];refine zcV 9 17 rfl rfl (λK hK=>?_) λK hK=>?_
  ·go_simp;go_wp2_with fail;refine hK.out _ _ (uh HS2 _ (hS0.drew.alloc (by first | (simp;done) | (simp;omega)) _)) (λhZ=>?_);clear hK K;refine zai 17 rfl λK hK=>?_;go_simp;go_wp2_with fail;refine hK.out _ _ (uh HS2 _ ((hS0.drew.alloc (by first | (simp;done) | (simp;omega)) _).alloc (by first | (simp;done) | (simp;omega)) _)) (λhZ=>?_);clear hK K;refine zad 18 36 rfl rfl hZ (λw ⟨k0,k1,k2⟩=>by go_simp;try rfl) ?_;simp only[Act.put,zsA,zsB,zsC];refine zai 19 rfl λK hK=>?_;go_simp;go_wp2_with fail;refine hK.out _ _ (uh HS2 _ (((hS0.drew.alloc (by first | (simp;done) | (simp;omega)) _).alloc (by first | (simp;done) | (simp;omega)) _).alloc (by first | (simp;done) | (simp;omega)) _)) (λhZ=>?_);clear hK K;refine zad 20 5 rfl rfl hZ (λw ⟨k0,k1,k2⟩=>by go_simp;try rfl) ?_;simp only[Act.put,zsA,zsB,zsC];refine wpAnyH_done (by kernel_rfl) ?_ _;go_wp2
   go_meet
   exact⟨_,_,_,rfl,(uh HM).1⟩
  ·go_simp;go_wp2_with fail;refine hK.out _ _ (uh HS2 _ (hS0.drew.alloc (by first | (simp;done) | (simp;omega)) _)) (λhZ=>?_);clear hK K;refine zai 9 rfl λK hK=>?_;go_simp;go_wp2_with fail;refine hK.out _ _ (uh HS2 _ ((hS0.drew.alloc (by first | (simp;done) | (simp;omega)) _).alloc (by first | (simp;done) | (simp;omega)) _)) (λhZ=>?_);clear hK K;refine zad 18 36 rfl rfl hZ (λw ⟨k0,k1,k2⟩=>by go_simp;try rfl) ?_;simp only[Act.put,zsA,zsB,zsC];refine zai 19 rfl λK hK=>?_;go_simp;go_wp2_with fail;refine hK.out _ _ (uh HS2 _ (((hS0.drew.alloc (by first | (simp;done) | (simp;omega)) _).alloc (by first | (simp;done) | (simp;omega)) _).alloc (by first | (simp;done) | (simp;omega)) _)) (λhZ=>?_);clear hK K;refine zad 20 5 rfl rfl hZ (λw ⟨k0,k1,k2⟩=>by go_simp;try rfl) ?_;simp only[Act.put,zsA,zsB,zsC];refine wpAnyH_done (by kernel_rfl) ?_ _;go_wp2
   go_meet
   exact⟨_,_,_,rfl,(uh HM).2⟩
 case rest =>
  obtain⟨cb,ob,tb,rfl,hN⟩:=hcut;generalize wc=W2 at *;have hr4:=zac (uh HrB) 4 rfl;have hbW2:=hN.bl;have q4:=(hbW2.cell (p:=⟨w1.heap.size,4,none⟩) (by have:=uh HsW;show w1.heap.size<_;omega)).trans hr4;have hpl:(zfz (zdy G) G.nk G.nr).length=G.nr:=by unfold zfz;simp
  rw[hpl] at q4;have HNc:=zaa hN;clear hN hr4 hbW2 HM HS2 g0 g1 g2 g3 g4 r0 hmk hmk2 hwr hnr
  have HFr:Hid (∀ (W:World),Below W1.heap.size W1 W->zeu W fa (zfz (zdy G) G.nk G.nr)):=zaa (λW hb=>zbE (uh HF) (show Below w1.heap.size w1 W from by
   have h1:Below w1.heap.size w1 W1:=by rw[uh HW1];exact(zsY _ _).alloc (zsG _) _
   exact h1.trans (zab hb h1.size)))
  obtain⟨i1,hi1,hz10,hz11,hz12⟩:=zah zwi;go_wp2_with fail
  go_loopw [41] (λx W=>∃ (j:Nat) (fv:Value) (vs:List Value),x=.int .i64 (j:Int)/\j<=G.nr/\NcI W1.heap.size G.nr G.prods.length gb na nc W1 W cb ob tb fv vs (λ_=>[])/\vs.length=j/\∀ q,q<j->∃ Z O,vs[q]? = some (.pointer (some ⟨Z,0,none⟩))/\SetN W Z O (fsF G q)/\∀ i,O i->W1.heap.size<=i) (λx _=>G.nr - (intOf x).toNat)
  case atStart=>exact⟨0,_,[],rfl,zsK _,uh HNc,rfl,λq hq=>absurd hq (Nat.not_lt_zero _)⟩
  case round =>
   obtain⟨j,fv,vs,rfl,hj,hN,rfl,hsets⟩:=hrel;have hlo:=hN.bl.size;by_cases hjl:vs.length<G.nr
   ·have hjlI:(vs.length:Int)<(G.nr:Int):=by omega
    have hjp:vs.length<(zfz (zdy G) G.nk G.nr).length:=by rw[hpl];exact hjl
    have hnn:=uh HFr wr hN.bl;obtain⟨b,off,rfl,hbl,hrows⟩:=hnn.resolve_left (λe=>by rw[e] at hjp;simp at hjp);obtain⟨ra1,rc1,c1,hr1⟩:=hrows vs.length hjp;have hrow:(zfz (zdy G) G.nk G.nr).getD vs.length []=zgm (zay (zdy G vs.length) G.nk):=by
     rw[zsE,zsF hjp];simp[zfz]
    rw[hrow] at c1 hr1;have hk3:=hG.k3;have hll:=ziE (zay (zdy G vs.length) G.nk) (zay (zdy G vs.length) G.nk).length;rw[zaQ] at hll
    have HNS:Hid (∀ V:World,Below wr.heap.size wr V->V.heap.size=wr.heap.size->Calls Tryz.prog 65 #[.slice ra1 (zgm (zay (zdy G vs.length) G.nk)).length rc1] V λe w'=>e=.returned (.pointer (some ⟨wr.heap.size,0,none⟩))/\Below wr.heap.size wr w'/\∃ O,SetN w' wr.heap.size O (fsF G vs.length)/\∀ k,O k->wr.heap.size<=k):=zaa (λV hb hs=>by
     have hnr:NRow V.heap.size V ra1 (zgm (zay (zdy G vs.length) G.nk)):=zfI (zaS hb hr1) hb.size
     refine(zcD ra1 rc1 _ (by unfold zgm;rw[zaQ];omega) (λy hy=>by
      obtain⟨k,rfl,hk,-⟩:=mem_posL.1 hy
      omega) V hnr).mono ?_
     rintro e w' ⟨rfl,hb',O,h1,h2⟩;rw[hs] at h1 h2 ⊢;refine⟨rfl,hb.trans (zab hb' hb.size),O,?_,h2⟩;have e9:inR (zgm (zay (zdy G vs.length) G.nk))=fsF G vs.length:=by
      funext m;unfold inR fsF;rw[Bool.eq_iff_iff,decide_eq_true_eq,mem_posL,Bool.and_eq_true,decide_eq_true_eq];constructor
      ·rintro⟨k,rfl,-,hk⟩;exact⟨by omega,by simpa using hk⟩
      ·rintro⟨h3,h4⟩;exact⟨m.toNat,by omega,zmQ hG ((zfS G _ _).1 h4),h4⟩
     rw[<- e9];exact h1)
    have q2:=zac hN.box 2 rfl;have hcbl:=(zsO.1 hN.box).1;have HN:=zaa hN;have Hsets:=zaa hsets;obtain⟨fa2,fc2,rfl⟩:=zaf hN.row;generalize (zgm (zay (zdy G vs.length) G.nk)).length=rl at *;clear hN hsets hnn hrows hr1 hrow;go_upto_region 6 with fail;refine wp_region_held_drew (S:=(λ_:World=>True)) (by kernel_rfl) (trivial) (λhZ=>?_);refine zbN (i:=0) (dst:=some 45) (v:=?_) rfl rfl (by kernel_rfl) (by kernel_rfl) (by kernel_rfl) (λ_ _ _ h=>h) (Or.inl ⟨by rfl,?_⟩) hZ ?_;rotate_left
    ·intro w hSw;skip;go_simp;try (with_reducible rfl)
    simp only[Act.put,zsA,zsB,zsC];refine zbN (i:=1) (dst:=some 46) (v:=?_) rfl rfl (by kernel_rfl) (by kernel_rfl) (by kernel_rfl) (λ_ _ _ h=>h) (Or.inl ⟨by rfl,?_⟩) hZ ?_;rotate_left
    ·intro w hSw;skip;go_simp;try (with_reducible rfl)
    simp only[Act.put,zsA,zsB,zsC];refine zbN (i:=2) (dst:=some 47) (v:=?_) rfl rfl (by kernel_rfl) (by kernel_rfl) (by kernel_rfl) (λ_ _ _ h=>h) (Or.inl ⟨by rfl,?_⟩) hZ ?_;rotate_left
    ·intro w hSw;skip;go_simp;try (with_reducible rfl)
    simp only[Act.put,zsA,zsB,zsC];refine zbN (i:=3) (dst:=some 48) (v:=?_) rfl rfl (by kernel_rfl) (by kernel_rfl) (by kernel_rfl) (λ_ _ _ h=>h) (Or.inl ⟨by rfl,?_⟩) hZ ?_;rotate_left
    ·intro w hSw;skip;go_simp;try (with_reducible rfl)
    simp only[Act.put,zsA,zsB,zsC];refine zbN (i:=5) (dst:=some 50) (v:=?_) rfl rfl (by kernel_rfl) (by kernel_rfl) (by kernel_rfl) (λ_ _ _ h=>h) (Or.inl ⟨by rfl,?_⟩) hZ ?_;rotate_left
    ·intro w hSw;skip;go_simp;try (with_reducible rfl)
    simp only[Act.put,zsA,zsB,zsC];refine zcV 4 6 rfl rfl (λK hK=>?_) λK hK=>?_
    ·go_simp;go_wp2_with fail;refine hK.out _ _ (trivial) (λhZ=>?_);clear hK K;refine zai 6 rfl λK hK=>?_;go_simp;refine(uh HNS wr.drew (zsY _ _).drew rfl).mono ?_;rintro e V2 ⟨rfl,hbV2,O2,hs2,hO2⟩;have q2b:=(hbV2.cell (p:=⟨cb,2,none⟩) hcbl).trans q2;have HV2:=zaa (And.intro hbV2 (And.intro hs2 hO2));clear hbV2 hs2 hO2;go_wp2_with fail;refine hK.out _ _ (trivial) (λhZ=>?_);clear hK K;refine zai 7 rfl λK hK=>?_;go_simp;have hb7:Below V2.heap.size V2 (V2.alloc (.cells #[(.pointer (some ⟨wr.heap.size,0,none⟩))] 110)):=(zsY _ _).alloc (zsG _) _;have hj9:(V2.alloc (.cells #[(.pointer (some ⟨wr.heap.size,0,none⟩))] 110)).heap[V2.heap.size]? = some (.cells #[(.pointer (some ⟨wr.heap.size,0,none⟩))] 110):=zsH _ _;refine hK.out _ _ (trivial) (λhZ=>?_);clear hK K;refine zai 8 rfl λK hK=>?_;have hN:=uh HN;have hbV2:=(uh HV2).1;have ow:=zaW hN.row (hbV2.trans (zab hb7 hbV2.size));refine step_append_lies _ rfl (.tmp 49) (.tmp 52) 107 rfl W1.heap.size 110 i1 (.pointer none) 1 8 Tryz.underlying107 hi1 hz10 hz11 hz12 rfl (by decide) (.slice fa2 vs.length fc2) vs.length vs (by simp[Act.eval]) ow ⟨V2.heap.size,0,none⟩ 1 1 [(.pointer (some ⟨wr.heap.size,0,none⟩))] (by simp[Act.eval]) rfl (λj u hu=>zeM hj9 hu) (λu hu=>by simp at hu;subst hu;rfl) (by decide) (by unfold maxLen;omega) (by omega) (by have:=hbV2.size;simp;omega) _ rfl ?_;intro g cap W6 ho6 hg6 hw6 hlt6;obtain⟨e6,hN6,hS6⟩:=zmC hN hlo hbV2 hg6 ho6 hw6;have hbx6:=e6.trans hN.box;have u2:=zac hbx6 2 rfl;have z2:=Wk.frozen_block hbx6 2;have HN6:=zaa (And.intro hN6 hS6);clear hN6 hS6 e6 hbx6 ho6 hg6 hw6 hlt6 ow hN hbV2 hj9 hb7;go_simp;refine hK.out _ _ (trivial) (λhZ=>?_);clear hK K;refine zbN (i:=9) (dst:=some 54) (v:=?_) rfl rfl (by kernel_rfl) (by kernel_rfl) (by kernel_rfl) (λ_ _ _ h=>h) (Or.inl ⟨by rfl,?_⟩) hZ ?_;rotate_left
     ·intro w hSw;skip;go_simp;try (with_reducible rfl)
     simp only[Act.put,zsA,zsB,zsC];refine zbN (i:=10) (dst:=some 55) (v:=?_) rfl rfl (by kernel_rfl) (by kernel_rfl) (by kernel_rfl) (λ_ _ _ h=>h) (Or.inl ⟨by rfl,?_⟩) hZ ?_;rotate_left
     ·intro w hSw;skip;go_simp;try (with_reducible rfl)
     simp only[Act.put,zsA,zsB,zsC];refine zai 11 rfl λK hK=>?_;go_simp;go_wp2_with fail;refine hK.out _ _ (trivial) (λhZ=>?_);clear hK K;refine wpAnyH_done (by kernel_rfl) ?_ _;obtain⟨hN7,hS7⟩:=uh HN6;have HN7:=zaa hN7;have HS7:=zaa hS7;clear hN7 hS7 HN6 u2 z2 q2;go_wp2;go_roundw
     case rel =>
      refine⟨vs.length+1,_,_,by go_num,by omega,uh HN7,by simp,λq hq=>?_⟩;obtain⟨-,hs2,hO2⟩:=uh HV2;by_cases e:q=vs.length
      ·subst e;exact⟨wr.heap.size,O2,by simp,uh HS7 _ _ _ hs2,λi hi=>by have:=hO2 i hi;omega⟩
      ·obtain⟨Zq,Oq,h1,h2,h3⟩:=uh Hsets q (by omega);exact⟨Zq,Oq,by rw[List.getElem?_append_left (by omega)];exact h1,uh HS7 _ _ _ (zaz h2 (zae (O:=λ_=>False) (uh HV2).1) (λ_ _ h=>h)),h3⟩
     case measure=>simp[intOf];omega
    ·go_simp;refine(uh HNS wr.drew (zsY _ _).drew rfl).mono ?_;rintro e V2 ⟨rfl,hbV2,O2,hs2,hO2⟩;have q2b:=(hbV2.cell (p:=⟨cb,2,none⟩) hcbl).trans q2;have HV2:=zaa (And.intro hbV2 (And.intro hs2 hO2));clear hbV2 hs2 hO2;go_wp2_with fail;refine hK.out _ _ (trivial) (λhZ=>?_);clear hK K;refine zcV 4 7 rfl rfl (λK hK=>?_) λK hK=>?_;go_simp;go_wp2_with fail;refine hK.out _ _ (trivial) (λhZ=>?_);clear hK K;refine zai 7 rfl λK hK=>?_;go_simp;have hb7:Below V2.heap.size V2 (V2.alloc (.cells #[(.pointer (some ⟨wr.heap.size,0,none⟩))] 110)):=(zsY _ _).alloc (zsG _) _;have hj9:(V2.alloc (.cells #[(.pointer (some ⟨wr.heap.size,0,none⟩))] 110)).heap[V2.heap.size]? = some (.cells #[(.pointer (some ⟨wr.heap.size,0,none⟩))] 110):=zsH _ _;rotate_left;go_simp;have hb7:Below V2.heap.size V2 (V2.alloc (.cells #[(.pointer (some ⟨wr.heap.size,0,none⟩))] 110)):=(zsY _ _).alloc (zsG _) _;have hj9:(V2.alloc (.cells #[(.pointer (some ⟨wr.heap.size,0,none⟩))] 110)).heap[V2.heap.size]? = some (.cells #[(.pointer (some ⟨wr.heap.size,0,none⟩))] 110):=zsH _ _;refine hK.out _ _ (trivial) (λhZ=>?_);clear hK K;refine zai 4 rfl λK hK=>?_;have q2c:=(hb7.cell (p:=⟨cb,2,none⟩) (by have:=(uh HV2).1.size;show cb<_;omega)).trans q2b;go_simp;go_wp2_with fail;rotate_left
     all_goals
      refine hK.out _ _ (trivial) (λhZ=>?_);clear hK K;refine zai 8 rfl λK hK=>?_;have hN:=uh HN;have hbV2:=(uh HV2).1;have ow:=zaW hN.row (hbV2.trans (zab hb7 hbV2.size));refine step_append_lies _ rfl (.tmp 49) (.tmp 52) 107 rfl W1.heap.size 110 i1 (.pointer none) 1 8 Tryz.underlying107 hi1 hz10 hz11 hz12 rfl (by decide) (.slice fa2 vs.length fc2) vs.length vs (by simp[Act.eval]) ow ⟨V2.heap.size,0,none⟩ 1 1 [(.pointer (some ⟨wr.heap.size,0,none⟩))] (by simp[Act.eval]) rfl (λj u hu=>zeM hj9 hu) (λu hu=>by simp at hu;subst hu;rfl) (by decide) (by unfold maxLen;omega) (by omega) (by have:=hbV2.size;simp;omega) _ rfl ?_;intro g cap W6 ho6 hg6 hw6 hlt6;obtain⟨e6,hN6,hS6⟩:=zmC hN hlo hbV2 hg6 ho6 hw6;have hbx6:=e6.trans hN.box;have u2:=zac hbx6 2 rfl;have z2:=Wk.frozen_block hbx6 2;have HN6:=zaa (And.intro hN6 hS6);clear hN6 hS6 e6 hbx6 ho6 hg6 hw6 hlt6 ow hN hbV2 hj9 hb7;go_simp;refine hK.out _ _ (trivial) (λhZ=>?_);clear hK K;refine zbN (i:=9) (dst:=some 54) (v:=?_) rfl rfl (by kernel_rfl) (by kernel_rfl) (by kernel_rfl) (λ_ _ _ h=>h) (Or.inl ⟨by rfl,?_⟩) hZ ?_;rotate_left
      ·intro w hSw;skip;go_simp;try (with_reducible rfl)
      simp only[Act.put,zsA,zsB,zsC];refine zbN (i:=10) (dst:=some 55) (v:=?_) rfl rfl (by kernel_rfl) (by kernel_rfl) (by kernel_rfl) (λ_ _ _ h=>h) (Or.inl ⟨by rfl,?_⟩) hZ ?_;rotate_left
      ·intro w hSw;skip;go_simp;try (with_reducible rfl)
      simp only[Act.put,zsA,zsB,zsC];refine zai 11 rfl λK hK=>?_;go_simp;go_wp2_with fail;refine hK.out _ _ (trivial) (λhZ=>?_);clear hK K;refine wpAnyH_done (by kernel_rfl) ?_ _;obtain⟨hN7,hS7⟩:=uh HN6;have HN7:=zaa hN7;have HS7:=zaa hS7;clear hN7 hS7 HN6 u2 z2 q2;go_wp2;go_roundw
      case rel =>
       refine⟨vs.length+1,_,_,by go_num,by omega,uh HN7,by simp,λq hq=>?_⟩;obtain⟨-,hs2,hO2⟩:=uh HV2;by_cases e:q=vs.length
       ·subst e;exact⟨wr.heap.size,O2,by simp,uh HS7 _ _ _ hs2,λi hi=>by have:=hO2 i hi;omega⟩
       ·obtain⟨Zq,Oq,h1,h2,h3⟩:=uh Hsets q (by omega);exact⟨Zq,Oq,by rw[List.getElem?_append_left (by omega)];exact h1,uh HS7 _ _ _ (zaz h2 (zae (O:=λ_=>False) (uh HV2).1) (λ_ _ h=>h)),h3⟩
      case measure=>simp[intOf];omega
   ·have hvn:vs.length=G.nr:=by omega
    have hjlI:¬ ((vs.length:Nat):Int)<(G.nr:Int):=by omega
    have hbx9:=(hN.bl.block gb (by have:=(uh Hbw1).size;omega)).trans (uh Hbx1);have g3:=zac hbx9 3 rfl;have hN0:NcI W1.heap.size G.nr G.prods.length gb na nc W1 wr cb ob tb fv vs (zbF G 0):=by
     have e:zbF G 0=λ_=>[]:=by funext r;simp[zbF]
     rw[e];exact hN
    have HN:=zaa hN0;have Hsets:=zaa hsets;have Hvn:=zaa hvn;clear hN hsets hN0 hvn hbx9 q4 HNc;go_wp2_with fail
    go_loopw [63] (λx W=>∃ k:Nat,x=.int .i64 (k:Int)/\k<=G.prods.length/\NcI W1.heap.size G.nr G.prods.length gb na nc W1 W cb ob tb fv vs (zbF G k)/\∀ q,q<G.nr->∃ Z O,vs[q]? = some (.pointer (some ⟨Z,0,none⟩))/\SetN W Z O (fsF G q)/\∀ i,O i->W1.heap.size<=i) (λx _=>G.prods.length - (intOf x).toNat)
    case atStart=>exact⟨0,rfl,zsK _,uh HN,λq hq=>uh Hsets q (by rw[uh Hvn];exact hq)⟩
    case round =>
     clear HN Hsets;obtain⟨k,rfl,hk,hN,hsets⟩:=hrel;generalize wr=W9 at *;have hlo:=hN.bl.size;by_cases hkl:k<G.prods.length
     ·have hklI:(k:Int)<(G.prods.length:Int):=by omega
      have hg9:GIn B W9 G ka pa ra qa:=zem ((zab (uh Hbw1) hB).trans (zab hN.bl (by have:=(uh Hbw1).size;omega))) (uh Hin);obtain⟨b,off,rfl,hbB,rr,rrc,x3,x4,x5,x6,n6,c6,hrr,hac,q0,q1,q2,q3,q4,q5,q6⟩:=zdm hg9.prods hkl;have hpl2:=hG.pl _ (zan hkl);have Hos:=zaa (λr=>zfG G k r);clear hac hg9;generalize G.prods.getD k pd0=p at *;obtain⟨pl,prt,plv,pac⟩:=p;simp only at q0 q1 q2 hpl2 hrr;obtain⟨lf,rfl⟩:∃ l:Nat,pl=(l:Int):=⟨pl.toNat,by omega⟩;have hl':lf<G.nr:=by have:=hpl2.2;omega
      obtain⟨W2,hW2⟩:∃ W2,W2=W9.alloc (.cells #[.int .i64 (lf:Int),.slice rr prt.length rrc,.int .i64 plv,.int .i64 x3,.int .i64 x4,.string x5,.slice x6 n6 c6] 116):=⟨_,rfl⟩;have hb2:Below W9.heap.size W9 W2:=by rw[hW2];exact(zsY _ _).alloc (zsG _) _
      have hpb:W2.heap[W9.heap.size]? = some (.cells #[.int .i64 (lf:Int),.slice rr prt.length rrc,.int .i64 plv,.int .i64 x3,.int .i64 x4,.string x5,.slice x6 n6 c6] 116):=by rw[hW2];exact zsH _ _
      have hsz2:W2.heap.size=W9.heap.size+1:=by rw[hW2];simp
      obtain⟨i3,hi3,hz30,hz31,hz32⟩:=zah zdB;obtain⟨O1,hT1,hO1⟩:=hN.own;have hltO:∀ j,O1 j->j<W9.heap.size:=by obtain⟨V,hV⟩:=hT1;exact hV.lt
      have hT1':=zaK hT1 hb2;obtain⟨V1,hV1⟩:=hT1';obtain⟨ta,tc,hVl,tcl,-,-⟩:=za6 hV1 hl';have hcbl:=(zsO.1 hN.box).1;have hlen:=zgQ G lf k
      have HS:Hid (∀ W,Fr O1 W2 W->(λW:World=>W.cell? ⟨cb,3,none⟩=some (.slice (some ⟨ob,0,none⟩) G.nr G.nr)/\W.cell? ⟨W9.heap.size,0,none⟩=some (.int .i64 (lf:Int))) W):=zaa (λW hf=>by
       have h1:=(hf.2.1 cb (by omega) (λh=>zhL (hO1 cb h).2 hN.box (by decide) (by decide) rfl)).trans ((hb2.block cb hcbl).trans hN.box);have h2:=(hf.2.1 W9.heap.size (by omega) (λh=>by have:=hltO _ h;omega)).trans hpb
       exact⟨zac h1 3 rfl,zac h2 0 rfl⟩)
      have HT:=zaa hV1;have HVl:=zaa hVl;have HRow:=zaa (show W2.ownsRow 0 3 1 (.slice ta (zbF G k lf).length tc) (zbF G k lf).length (zao (zbF G k lf)) by rw[<- hVl];exact(hV1.rows lf hl').1);have hlr:=hl';have hF0:Fr O1 W2 W2:=zax _ _;generalize hFl:zbF G k lf=Fl at *;have HN:=zaa hN;have Hsets:=zaa hsets;have HO1:=zaa hO1;have HltO:=zaa hltO;clear hT1 hV1 hVl hN hsets;go_wp2;rw[<- hW2];have Hb2:=zaa hb2;clear hW2
      have HE:Hid (zkO (zbF G k) lf (Fl ++ [(k:Int)])=zbF G (k+1)):=zaa (by
       funext r;rw[uh Hos r,zsS];by_cases e:lf=r
       ·subst e;rw[if_pos rfl,ze0,hFl]
       ·rw[if_neg e,zis (λh=>e h.symm)])
      refine wp_region_held_drew (S:=(λW:World=>W.cell? ⟨cb,3,none⟩=some (.slice (some ⟨ob,0,none⟩) G.nr G.nr)/\W.cell? ⟨W9.heap.size,0,none⟩=some (.int .i64 (lf:Int)))) (by kernel_rfl) (uh HS _ hF0) (λhZ=>?_);refine zad 0 68 rfl rfl hZ (λw ⟨k0,k1⟩=>by go_simp;try rfl) ?_;simp only[Act.put,zsA,zsB,zsC];refine zad 1 69 rfl rfl hZ (λw ⟨k0,k1⟩=>by go_simp;try rfl) ?_;simp only[Act.put,zsA,zsB,zsC];refine zad 2 70 rfl rfl hZ (λw ⟨k0,k1⟩=>by go_simp;try rfl) ?_;simp only[Act.put,zsA,zsB,zsC];refine zad 3 71 rfl rfl hZ (λw ⟨k0,k1⟩=>by go_simp;try rfl) ?_;simp only[Act.put,zsA,zsB,zsC];refine zad 4 72 rfl rfl hZ (λw ⟨k0,k1⟩=>by go_simp;try rfl) ?_;simp only[Act.put,zsA,zsB,zsC];refine zad 5 73 rfl rfl hZ (λw ⟨k0,k1⟩=>by go_simp;try rfl) ?_;simp only[Act.put,zsA,zsB,zsC];refine zad 6 74 rfl rfl hZ (λw ⟨k0,k1⟩=>by go_simp;try rfl) ?_;simp only[Act.put,zsA,zsB,zsC];refine zad 7 75 rfl rfl hZ (λw ⟨k0,k1⟩=>by go_simp;try rfl) ?_;simp only[Act.put,zsA,zsB,zsC];refine zad 8 76 rfl rfl hZ (λw ⟨k0,k1⟩=>by go_simp;try rfl) ?_;simp only[Act.put,zsA,zsB,zsC];refine zad 9 77 rfl rfl hZ (λw ⟨k0,k1⟩=>by go_simp;try rfl) ?_;simp only[Act.put,zsA,zsB,zsC];refine zad 10 78 rfl rfl hZ (λw ⟨k0,k1⟩=>by go_simp;try rfl) ?_;simp only[Act.put,zsA,zsB,zsC];refine zad 11 79 rfl rfl hZ (λw ⟨k0,k1⟩=>by go_simp;try rfl) ?_;simp only[Act.put,zsA,zsB,zsC];refine zad 12 80 rfl rfl hZ (λw ⟨k0,k1⟩=>by go_simp;try rfl) ?_;simp only[Act.put,zsA,zsB,zsC];refine zad 14 82 rfl rfl hZ (λw ⟨k0,k1⟩=>by go_simp;try rfl) ?_;simp only[Act.put,zsA,zsB,zsC];refine zcV 13 15 rfl rfl (λK hK=>?_) λK hK=>?_;go_simp;refine hK.out _ _ (uh HS _ hF0) (λhZ=>?_);clear hK K;refine zai 15 rfl λK hK=>?_;go_simp;have hj9:(W2.alloc (.cells #[.int .i64 (k:Int)] 3)).heap[W2.heap.size]? = some (.cells #[.int .i64 (k:Int)] 3):=zsH _ _;have hbA:Below W2.heap.size W2 (W2.alloc (.cells #[.int .i64 (k:Int)] 3)):=(zsY _ _).alloc (zsG _) _;have hF:=zdc hF0 hbA;rotate_left;go_simp;have hj9:(W2.alloc (.cells #[.int .i64 (k:Int)] 3)).heap[W2.heap.size]? = some (.cells #[.int .i64 (k:Int)] 3):=zsH _ _;have hbA:Below W2.heap.size W2 (W2.alloc (.cells #[.int .i64 (k:Int)] 3)):=(zsY _ _).alloc (zsG _) _;have hF:=zdc hF0 hbA;refine hK.out _ _ (uh HS _ hF) (λhZ=>?_);clear hK K;refine zai 13 rfl λK hK=>?_;have tcl2:(W2.alloc (.cells #[.int .i64 (k:Int)] 3)).cell? ⟨ob,lf,none⟩=some (.slice ta Fl.length tc):=(hbA.cell (p:=⟨ob,lf,none⟩) ((uh HT).lt _ (uh HT).own)).trans tcl;go_simp;rotate_left
      all_goals
       refine hK.out _ _ (uh HS _ hF) (λhZ=>?_);clear hK K;refine zai 16 rfl λK hK=>?_;have ow:=zaR (zaW (uh HRow) hbA) (zsG _);refine step_append_lies _ rfl (.tmp 81) (.tmp 83) 50 rfl 0 3 i3 (.int .i64 0) 1 8 Tryz.underlying50 hi3 hz30 hz31 hz32 rfl (by decide) (.slice ta Fl.length tc) Fl.length (zao Fl) (by simp[Act.eval]) ow ⟨W2.heap.size,0,none⟩ 1 1 [.int .i64 (k:Int)] (by simp[Act.eval]) rfl (λj u hu=>zeM hj9 hu) (λu hu=>by simp at hu;subst hu;rfl) (by decide) (by unfold maxLen;omega) (by omega) (zsK _) _ rfl ?_;intro g cap W6 ho6 hg6 hw6 hlt6;have hg6:(W2.alloc (.cells #[.int .i64 (k:Int)] 3)).grownBy W6 (Value.ownBlock (.slice ta Fl.length tc)):=⟨hg6.os,hg6.tape,hg6.output,hg6.size,hg6.block⟩;rw[<- uh HVl] at hg6 hw6;have ho6:W6.ownsRow 0 3 1 (.slice (some ⟨g,0,none⟩) (Fl ++ [(k:Int)]).length cap) (Fl ++ [(k:Int)]).length (zao (Fl ++ [(k:Int)])):=by rw[<- zaY,zsI];exact ho6
       obtain⟨hT7,hF7⟩:=zd8 (uh HT) hlr hbA rfl ho6 hg6 hw6 hlt6;have hF6:Fr _ W2 W6:=⟨zsy hF.1 hg6.size,λj hj ho=>(hg6.block j (zsJ hj hF.1) (λe=>ho (((uh HT).rows _ hlr).2 j e.symm))).trans (hF.2.1 j hj ho),hg6.os.trans hF.2.2.1,hg6.tape.trans hF.2.2.2.1,hg6.output.trans hF.2.2.2.2⟩;go_simp;refine hK.out _ _ (uh HS _ hF6) (λhZ=>?_);clear hK K;refine zad 17 85 rfl rfl hZ (λw ⟨k0,k1⟩=>by go_simp;try rfl) ?_;simp only[Act.put,zsA,zsB,zsC];refine zai 18 rfl λK hK=>?_;have hfz:W6.frozen? ⟨ob,lf,none⟩=false:=(zbI (uh HT) hlr hbA hg6);have hcz:=zcs (uh HT) hlr hbA hg6;rw[uh HVl] at hcz;go_simp;have hlen6:(Fl ++ [(k:Int)]).length=Fl.length+1:=by simp
       rw[hlen6] at hT7 hF7;refine hK.out _ _ (uh HS _ hF7) (λhZ=>?_);clear hK K;refine wpAnyH_done (by kernel_rfl) ?_ _;have HT7:=zaa hT7;have HF7:=zaa hF7;have hs6:=hg6.size;clear ow hT7 hF7 hF6 ho6 hg6 hw6 hlt6 hfz hcz hF hj9 hlen6 hZ;have hT7:=uh HT7;rw[uh HE] at hT7;obtain⟨hN7,hS7⟩:=zvO (uh HN) (uh Hb2) (uh HO1) hlo hT7 (λj hj=>hj.imp id (λh=>h.1)) (uh HF7);have HN7:=zaa hN7;have HS7:=zaa hS7;clear hT7 hN7 hS7 HT7 HF7 HT HVl HRow HS tcl hF0;go_wp2;go_roundw
       case rel =>
        refine⟨k+1,by go_num,by omega,uh HN7,λq hq=>?_⟩;obtain⟨Zq,Oq,h1,h2,h3⟩:=uh Hsets q hq;exact⟨Zq,Oq,h1,uh HS7 _ _ _ h2,h3⟩
       case measure=>simp[intOf];omega
     ·obtain rfl:k=G.prods.length:=by omega
      have hkl2:¬ ((G.prods.length:Nat):Int)<(G.prods.length:Int):=by omega
      obtain⟨fa2,fc2,hfv⟩:=zaf hN.row;rw[uh Hvn] at hfv;have hbw9:Below w.heap.size w W9:=(uh Hbw1).trans (zab hN.bl (uh Hbw1).size)
      have HP:=zaa (zoh hG (uh Hgm) hB hbw9 (by have:=(uh Hbw1).size;omega) (uh HN1) (by have:=uh HsW;have:=(uh Hb1).size;omega) (by
       have h1:Below w1.heap.size w1 W1:=by rw[uh HW1];exact(zsY _ _).alloc (zsG _) _
       exact h1.trans (zab hN.bl h1.size)) hN hfv (uh Hvn) hsets)
      have hbl9:=zaa hbw9;clear hN hsets hbw9 hfv;go_wp2;go_ret;obtain⟨h1,h2,h3,h4⟩:=uh HP;exact⟨cb,rfl,tb,h3,h4,h1,h2,uh hbl9⟩
end Go.Proofs.YtieciibnajeibaaGreatDoor

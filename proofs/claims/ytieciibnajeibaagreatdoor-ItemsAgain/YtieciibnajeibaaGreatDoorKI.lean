import Derived.Test.YtieciibnajeibaaGreatDoorKF
import Derived.Test.YtieciibnajeibaaGreatDoorUH
set_option maxHeartbeats 8000000
set_option maxRecDepth 100000
namespace Go.Proofs.YtieciibnajeibaaGreatDoor
open Go.RowKit Go.Maps
variable{G:Gm}{b n:Nat}{l m:List It}{w w':World}
theorem zuI(h:∀ x,x ∈ l->x ∈ m){r k:Nat}(hd:Dm G l r k):Dm G m r k:=by
 induction hd with
 | base x hx r hr k hk hn=>exact .base x (h x hx) r hr k hk hn
 | step r k hd p hp hl r' hr k' hk hn ih=>exact .step r k ih p hp hl r' hr k' hk hn
theorem zkB(hG:GOk G)(h:∀ x,x ∈ l↔x ∈ m):clL G l=clL G m:=by
 refine zd4 (zeD G l) (zeD G m) (λx=>?_);rw[zcE hG,zcE hG];have hd:∀ r k,Dm G l r k↔Dm G m r k:=λr k=>⟨zuI (λx hx=>(h x).1 hx),zuI (λx hx=>(h x).2 hx)⟩;unfold zxI;rw[h x];constructor
 ·rintro(h1 | ⟨p,k,e,hp,hk,r,hl,h2⟩)
  ·exact .inl h1
  ·exact .inr ⟨p,k,e,hp,hk,r,hl,(hd r k).1 h2⟩
 ·rintro(h1 | ⟨p,k,e,hp,hk,r,hl,h2⟩)
  ·exact .inl h1
  ·exact .inr ⟨p,k,e,hp,hk,r,hl,(hd r k).2 h2⟩
theorem zwU(hG:GOk G)(l:List It):clR G (zfB l)=clR G l/\clV G (zfB l)=clV G l:=by
 have e:clL G (zfB l)=clL G l:=zkB hG (λx=>mem_ordI);unfold clR clV;rw[e];exact⟨rfl,rfl⟩
def allI(G:Gm):List It:=(List.range (G.prods.length+1)).flatMap λ(p:Nat)=>(List.range 65).flatMap λ(d:Nat)=>(List.range G.nk).map λ(k:Nat)=>((p:Int),(d:Int),(k:Int))
theorem ztf(hG:GOk G){x:It}(h:zcv G x=true):x ∈ allI G:=by
 obtain⟨e1,e2,e3,e4,e5,e6⟩:=of_decide_eq_true h;have hl:=zcu hG e1 e2;obtain⟨xp,xd,xk⟩:=x;simp only at e1 e2 e3 e4 e5 e6 hl;refine List.mem_flatMap.2 ⟨xp.toNat,List.mem_range.2 (by omega),List.mem_flatMap.2 ⟨xd.toNat,List.mem_range.2 (by omega),List.mem_map.2 ⟨xk.toNat,List.mem_range.2 (by unfold Gm.nk;omega),?_⟩⟩⟩;exact zuF (by simp only;omega) (by simp only;omega) (by simp only;omega)
theorem zeP{α:Type}{f:Nat->List α}{c:Nat}(h:∀ i,(f i).length<=c):∀ n,((List.range n).flatMap f).length<=n * c
 | 0=>by simp
 | n+1=>by
   have ih:=zeP h n;have:=h n;rw[List.range_succ,List.flatMap_append,zsI,Nat.succ_mul,List.flatMap_cons,List.flatMap_nil,List.append_nil];omega
theorem zsv(hG:GOk G)(h:∀ x,x ∈ l->zcv G x=true):(zfB l).length<=1000000000:=by
 have h1:=zfC (zd5 l) (λx hx=>ztf hG (h x (mem_ordI.1 hx)));have h2:(allI G).length<=(G.prods.length+1) * (65 * 1024):=zeP (λp=>zeP (c:=1024) (λd=>by rw[List.length_map,List.length_range];have:=hG.k3;omega) 65) _;have h3:(G.prods.length+1) * (65 * 1024)<=4097 * (65 * 1024):=Nat.mul_le_mul_right _ (by have:=hG.ps;omega);omega
noncomputable def zbD(G:Gm)(l:List It):List It:=if zbK G then if zdv G l then clR G l else[] else[]
noncomputable def zcL(G:Gm)(l:List It):Int:=if zbK G then if zdv G l then clV G l else 140 else 130
def zcT(G:Gm)(l:List It)(w:World)(e:Ending)(w':World):Prop:=∃ a c,e=.returned (.tuple #[.slice a (zbD G l).length c,.int .i64 (zcL G l)])/\w'.ownsRow w.heap.size 57 3 (.slice a (zbD G l).length c) (zbD G l).length (zaE (zbD G l))/\Below w.heap.size w w'
theorem zq2{v:Int}(h1:zbD G l=[])(h2:zcL G l=v)(hb:Below w.heap.size w w'):zcT G l w (.returned (.tuple #[.slice none 0 0,.int .i64 v])) w':=by
 unfold zcT;rw[h1,h2];exact⟨none,0,rfl,World.ownsRow_nil _ _ _ _,hb⟩
theorem zt1(hLY:zd3 64)(G:Gm)(ka pa ra qa:Option Addr)(kc pc rc qc:Nat)(ia:Option Addr)(ic:Nat)(l:List It)(hl:l.length<=5864062014805)(w:World)(hin:GIn w.heap.size w G ka pa ra qa)(hsm:smG G)(htab:Tb w.heap.size w)(hi:zcy w.heap.size w ia l) :
 Calls Tryz.prog 9 #[gV G ka pa ra qa kc pc rc qc,.slice ia l.length ic] w λe w'=>zcT G l w e w':=by
 have HN:Hid (∀ W1:World,W1=(w.alloc (.cells #[.slice ka G.kinds.length kc,.slice pa G.precs.length pc,.slice ra G.rules.length rc,.slice qa G.prods.length qc,.int .i64 G.start] 26)).alloc (.cells #[.slice ia l.length ic] 27)->Calls Tryz.prog 32 #[gV G ka pa ra qa kc pc rc qc,.slice (some ⟨w.heap.size+1,0,none⟩) 1 1] W1 λe w'=>zlY G [l] w e w'):=zaa (λW1 hW1=>by
  have hb01:Below w.heap.size w W1:=by rw[hW1];exact((zsY _ _).alloc (zsG _) _).alloc (by simp) _
  have hs1:W1.heap.size=w.heap.size+1+1:=by rw[hW1];simp
  have hx1:W1.heap[w.heap.size+1]? = some (.cells #[.slice ia l.length ic] 27 (0,0)):=by
   have:=zsH (w.alloc (.cells #[.slice ka G.kinds.length kc,.slice pa G.precs.length pc,.slice ra G.rules.length rc,.slice qa G.prods.length qc,.int .i64 G.start] 26)) (.cells #[.slice ia l.length ic] 27);rw[<- hW1] at this;simpa using this
  refine(zfK G ka pa ra qa kc pc rc qc (some ⟨w.heap.size+1,0,none⟩) 1 [l] (by simp) W1 (zcQ hin hb01) hsm (.inr ⟨w.heap.size+1,0,rfl,by omega,λj hj=>by
   obtain rfl:j=0:=by simp at hj;omega
   exact⟨ia,ic,zac hx1 0 rfl,zaI (zaw hb01 hi) hb01.size,by simp;omega⟩⟩)).mono ?_
  rintro e w' ⟨h1,h2⟩;refine⟨hb01.trans (zab h1 hb01.size),?_⟩;rcases h2 with h2 | h2 | ⟨h2,h3,gb,h4,h5,h6⟩
  ·exact .inl h2
  ·exact .inr (.inl h2)
  ·exact .inr (.inr ⟨h2,h3,gb,h4,by omega,h6⟩))
 have Hi:=zaa hi;have Htab:=zaa htab;unfold gV at HN ⊢;clear hin hi htab;go_enter Tryz.func9,Tryz.ntmps9;go_wp2_with fail;refine(uh HN _ rfl).mono ?_;rintro e w' ⟨hb,h | h | h⟩
 ·obtain⟨h1,rfl⟩:=h;have h2:zbD G l=[]:=by unfold zbD;rw[h1];rfl
  have h3:zcL G l=130:=by unfold zcL;rw[h1];rfl
  have Hf:=zaa (zq2 h2 h3 hb);clear hb h1 h2 h3 HN Hi;go_wp2;refine bodyPost_ret (v:=.tuple #[.slice none 0 0,.int .i64 130]) ?zz1 rfl (uh Hf)
  case zz1=>simp[results,Tryz.results9,go_sem]
 ·obtain⟨h1,h4,rfl⟩:=h;have h5:zdv G l=false:=by simpa [zf9] using h4
  have h2:zbD G l=[]:=by unfold zbD;rw[h1,h5];rfl
  have h3:zcL G l=140:=by unfold zcL;rw[h1,h5];rfl
  have Hf:=zaa (zq2 h2 h3 hb);clear hb h1 h2 h3 h4 h5 HN Hi;go_wp2;refine bodyPost_ret (v:=.tuple #[.slice none 0 0,.int .i64 140]) ?zz2 rfl (uh Hf)
  case zz2=>simp[results,Tryz.results9,go_sem]
 ·obtain⟨h1,h4,gb,rfl,h6,h7⟩:=h;have h5:zdv G l=true:=by simpa [zf9] using h4
  have hG:=zb8 h1;have hci:zbD G l=clR G l:=by unfold zbD;rw[h1,h5];rfl
  have hcv:zcL G l=clV G l:=by unfold zcL;rw[h1,h5];rfl
  have HC:=zaa (zdo hLY w'.heap.size gb G h1 w' (zsG _) h7);have HE:=zaa (And.intro hci hcv);have HG:=zaa hG;have Hb:=zaa hb;have Hx:=zaa h5;clear hb h4 h5 h6 h7 HN hci hcv hG;go_wp2_with fail;refine(uh HC).mono ?_;rintro e w2 ⟨cb,tb,rfl,ht1,ht2,hcl,hrs,hb2⟩;have hbw:Below w.heap.size w w2:=(uh Hb).trans (zab hb2 (uh Hb).size);have hs2:=hbw.size;have hir:zcy w2.heap.size w2 ia l:=zaI (zaw hbw (uh Hi)) hs2;have HI:=zaa (zg8 w2.heap.size ia ic l hl w2 (zsG _) hir);have Hcl:=zaa hcl;have Hrs:=zaa hrs;have Hbw:=zaa hbw;have Hht:=zaa (And.intro ht1 ht2);have hszw:=(uh Hb).size;have HO:Hid (zbD G (zfB l)=zbD G (zfB l)):=zaa rfl;clear hcl hrs hbw hb2 hir ht1 ht2 HC HO;obtain⟨L,hL⟩:∃ L,L=zfB l:=⟨_,rfl⟩;rw[<- hL] at HI;have HL:=zaa hL;clear hL;go_wp2_with fail;refine(uh HI).mono ?_;rintro e w3 ⟨a3,c3,rfl,hown3,hb3⟩;have hG:=uh HG;obtain⟨ht1,ht2⟩:=uh Hht;have hs3:=hb3.size;have hit:∀ x,x ∈ L->zcv G x=true:=λx hx=>areIt_iff.1 (uh Hx) x (mem_ordI.1 (by rw[<- uh HL];exact hx));have hLl:L.length<=1000000000:=by
   rw[uh HL];exact zsv hG (λx hx=>areIt_iff.1 (uh Hx) x hx)
  have hcl3:=zbb (uh Hcl) (zae hb3);have hrs3:=zbC (uh Hrs) (zae hb3)
  have HK:=zaa (zeS (λk=>k<w2.heap.size/\k≠tb) w'.heap.size cb gb tb G hG w3 hcl3 hrs3 (λk hk=>by omega) (zdz (uh Htab) (zsG _) ((uh Hbw).trans (zab hb3 hs2))) a3 c3 L hLl hit (za4 hown3) (λx hx=>by
   rcases hown3.2 with ⟨e9,-⟩ | ⟨g,cap,cur,e9,hg1,-⟩
   ·rw[hx] at e9;cases e9
   ·rw[hx] at e9;obtain rfl:x=⟨g,0,none⟩:=by simpa using (Value.slice.inj e9).1
    show g≠tb
    omega))
  have hcE:=zwU hG l;rw[<- uh HL] at hcE
  have Hfin:Hid (∀ (w4:World) (a:Option Addr) (c:Nat),w4.ownsRow w3.heap.size 57 3 (.slice a (clR G L).length c) (clR G L).length (zaE (clR G L))->Fr (λk=>k=tb) w3 w4->zcT G l w (.returned (.tuple #[.slice a (clR G L).length c,.int .i64 (clV G L)])) w4):=zaa (λw4 a c h1 h2=>by
   unfold zcT;rw[(uh HE).1,(uh HE).2,<- hcE.1,<- hcE.2]
   exact⟨a,c,rfl,zaR h1 (by omega),((uh Hbw).trans (zab hb3 hs2)).trans (zau h2 (by omega) (λk hk=>by omega))⟩)
  clear hown3 hit hcl3 hrs3 hb3;go_wp2_with fail;refine(uh HK).mono ?_;rintro e w4 ⟨a4,c4,rfl,hown4,hfr4,-⟩;have Hf:=zaa (uh Hfin w4 a4 c4 hown4 hfr4);clear hown4 hfr4 Hfin hcE HK;go_wp2;refine bodyPost_ret (v:=.tuple #[.slice a4 (clR G L).length c4,.int .i64 (clV G L)]) ?zz3 rfl (uh Hf)
  case zz3=>simp[results,Tryz.results9,go_sem]
abbrev Sl:=Option (Nat × Nat × Nat)
def slV:Sl->Value
 | none=>.slice none 0 0
 | some (g,n,c)=>.slice (some ⟨g,0,none⟩) n c
def slD:Sl->DataW Unit
 | none=>.agg [.lit (.int .i64 (-1)),.lit (.int .i64 0),.lit (.int .i64 0)]
 | some (g,n,c)=>.agg [.lit (.int .i64 (g:Int)),.lit (.int .i64 (n:Int)),.lit (.int .i64 (c:Int))]
def sliE:Value->Option (DataW Unit × List MemPlace)
 | .slice none 0 0=>some (slD none,[])
 | .slice (some ⟨g,0,none⟩) n c=>some (slD (some (g,n,c)),[])
 | _=>none
theorem zo5(s:Sl):sliE (slV s)=some (slD s,[]):=by
 cases s with
 | none=>rfl
 | some s=>obtain⟨g,n,c⟩:=s;rfl
theorem zo6{s t:Sl}(h:slD s=slD t):s=t:=by
 cases s with
 | none =>
   cases t with
   | none=>rfl
   | some t=>obtain⟨g,n,c⟩:=t;simp[slD] at h
 | some s =>
   obtain⟨g,n,c⟩:=s
   cases t with
   | none=>simp[slD] at h
   | some t=>obtain⟨g',n',c'⟩:=t;simp[slD] at h;simp;omega
theorem zr7{v:Value}{s:Sl}{ps:List MemPlace}(h:sliE v=some (slD s,ps)):v=slV s:=by
 unfold sliE at h
 split at h
 ·simp only[Option.some.injEq,Prod.mk.injEq] at h;rw[<- zo6 h.1];rfl
 ·simp only[Option.some.injEq,Prod.mk.injEq] at h;rw[<- zo6 h.1];rfl
 ·cases h
theorem zero27(w:World):(zeroValue 27).run Tryz.prog w=.ok (.slice none 0 0) w:=by kernel_rfl
def MpI(w:World)(b n:Nat)(A:Nat->Sl):Prop:=∃ D:DataW Unit,w.ownsMap Tryz.prog 3 sliE b n D/\(∀ q:Nat,D.atKey (ki q) (slD none)=slD (A q))/\∀ kl,Maps.has D kl=true↔∃ q:Nat,q<=1048576/\kl=ki q/\A q≠none
theorem zj7{A:Nat->Sl}(h:MpI w b n A):b<w.heap.size:=by obtain⟨D,h,-⟩:=h;exact h.lt
theorem zgU{A:Nat->Sl}(h:MpI w b n A)(e:w'.heap[b]? = w.heap[b]?):MpI w' b n A:=by
 obtain⟨D,⟨es,c,hh,rr⟩,h2⟩:=h;exact⟨D,⟨es,c,e.trans hh,rr⟩,h2⟩
theorem zbq{A:Nat->Sl}(h:MpI w b n A){cs:Array Value}{t:TypeId}{f:Nat × Nat}:w.heap[b]?≠some (.cells cs t f):=by
 obtain⟨D,⟨es,c,hh,rr⟩,h2⟩:=h;rw[hh];intro e;cases e
theorem ziR{A:Nat->Sl}(h:MpI w b n A)(q:Nat)(hq:q<=1048576):(Instr.lookup 78 (.map (some b)) (.int .i64 (q:Int)) false).run Tryz.prog w=.ok (slV (A q)) w:=by
 obtain⟨D,h1,h2,-⟩:=h;have hwf:(Lit.int .i64 (q:Int)).wf=true:=WalkArith.wf_i64 (by omega);obtain⟨v,ps,hrun,hv⟩:=h1.lookup zke Tryz.underlying78 (zero27 w) (zo5 none) (keyOf_int_mk Tryz.underlying3 hwf);rw[hrun];have:=h2 q;rw[show D.atKey (Lit.int .i64 (q:Int)) (slD none)=_ from this] at hv;rw[zr7 hv]
theorem zvT{A:Nat->Sl}(h:MpI w b n A)(hn:n<maxLen)(q:Nat)(hq:q<=1048576)(s:Nat × Nat × Nat):∃ w',(Instr.mapUpdate 78 (.map (some b)) (.int .i64 (q:Int)) (slV (some s))).run Tryz.prog w=.ok () w'/\MpI w' b (n+1) (λr=>if r=q then some s else A r)/\w.grownBy w' (some b):=by
 obtain⟨D,h1,h2,h3⟩:=h;have hwf:(Lit.int .i64 (q:Int)).wf=true:=WalkArith.wf_i64 (by omega);obtain⟨w',hrun,hown,hg⟩:=h1.update zke Tryz.underlying78 hn (keyOf_int_mk Tryz.underlying3 hwf) (zo5 (some s));refine⟨w',hrun,⟨_,hown,λr=>?_,λkl=>?_⟩,hg⟩
 ·show _=slD (if r=q then some s else A r);by_cases e:r=q
  ·subst e;rw[if_pos rfl];exact atKey_put_same h1.isMap (show WideAt.IsKeyLit (ki r) from trivial) _ _
  ·rw[if_neg e];exact(atKey_put_other (λe'=>by simp at e';omega) _ _).trans (h2 r)
 ·by_cases e:kl=ki q
  ·rw[e];exact⟨λ_=>⟨q,hq,rfl,by simp⟩,λ_=>has_put_same h1.isMap (show WideAt.IsKeyLit (ki q) from trivial) _⟩
  ·rw[has_put_other e,h3 kl];constructor
   ·rintro⟨r,e0,e1,e2⟩;have e3:r≠q:=λe3=>e (by rw[e1,e3]);exact⟨r,e0,e1,by simp only[if_neg e3];exact e2⟩
   ·rintro⟨r,e0,e1,e2⟩;have e3:r≠q:=λe3=>e (by rw[e1,e3]);simp only[if_neg e3] at e2;exact⟨r,e0,e1,e2⟩
theorem zvU(w:World):MpI (w.alloc (.map #[] 0)) w.heap.size 0 (λ_=>none):=⟨.map [],World.ownsMap_made _ _ _ _,λ_=>rfl,λkl=>⟨λh=>by simp[Maps.has] at h,fun⟨q,_,_,h⟩=>absurd rfl h⟩⟩
def zcb(G:Gm)(l:List It)(y:Nat):List It:=(l.filter λx=>decide (zdh G x=some (y:Int))).map λx=>(x.1,x.2.1+1,x.2.2)
theorem zdM(G:Gm)(l:List It)(x:It)(y:Nat):zcb G (l ++ [x]) y=if zdh G x=some (y:Int) then zcb G l y ++ [(x.1,x.2.1+1,x.2.2)] else zcb G l y:=by
 unfold zcb;rw[List.filter_append,List.map_append];by_cases h:zdh G x=some (y:Int)
 ·rw[if_pos h];simp[h]
 ·rw[if_neg h];simp[h]
theorem ziS(G:Gm)(l:List It)(y:Nat):(zcb G l y).length<=l.length:=by
 unfold zcb;rw[List.length_map];exact List.length_filter_le _ _
def zk4(ls:List (List It)):Nat:=(ls.map List.length).sum
theorem zjF(ls:List (List It))(l:List It):zk4 (ls ++ [l])=zk4 ls+l.length:=by unfold zk4;simp
def znK(l:List It):Prop:=0<l.length/\l.length<=65536
def zng(ls:List (List It)):Prop:=(0<ls.length/\ls.length<=4096)/\(∀ j,j<ls.length->znK (ls.getD j []))/\zk4 ls<=1048576
theorem zf2(a:Option Addr)(c:Nat)(ls:List (List It))(hl:ls.length<=281474976710656)(w:World)(h:zev w.heap.size w a ls) :
 Calls Tryz.prog 93 #[.slice a ls.length c] w λe w'=>(∃ r:Bool,e=.returned (.bool r)/\(r=true↔zng ls))/\Below w.heap.size w w':=by
 have H:=zaa h;clear h;by_cases h0:ls.length=0
 ·have h0I:(((ls.length:Nat):Int) == 0)=true:=by rw[h0];rfl
  have hno:¬ zng ls:=λh=>by have:=h.1.1;omega
  go_enter Tryz.func93,Tryz.ntmps93;go_wp2;refine bodyPost_ret (v:=.bool false) ?zz1 rfl ?zz2
  case zz1=>simp[results,Tryz.results93,go_sem]
  case zz2=>exact⟨⟨false,rfl,⟨(λh=>absurd h (by decide)),λh=>absurd h hno⟩⟩,zsY _ _⟩
 ·have h0I:(((ls.length:Nat):Int) == 0)=false:=by simpa using h0
  by_cases h4:4096<ls.length
  ·have h4I:(4096:Int)<(ls.length:Int):=by omega
   have hno:¬ zng ls:=λh=>by have:=h.1.2;omega
   go_enter Tryz.func93,Tryz.ntmps93;go_wp2;refine bodyPost_ret (v:=.bool false) ?zz3 rfl ?zz4
   case zz3=>simp[results,Tryz.results93,go_sem]
   case zz4=>exact⟨⟨false,rfl,⟨(λh=>absurd h (by decide)),λh=>absurd h hno⟩⟩,zsY _ _⟩
  ·have h4I:¬ (4096:Int)<(ls.length:Int):=by omega
   go_enter Tryz.func93,Tryz.ntmps93;go_wp2_with fail
   go_loopw [3,16] (λv x wr=>∃ k:Nat,v=.int .i64 (zk4 (ls.take k):Nat)/\x=.int .i64 (k:Int)/\k<=ls.length/\(∀ j,j<k->znK (ls.getD j []))/\zk4 (ls.take k)<=k * 65536/\Below w.heap.size w wr) (λ_ x _=>ls.length - (intOf x).toNat)
   case atStart=>exact⟨0,rfl,rfl,zsK _,λj hj=>absurd hj (Nat.not_lt_zero _),by simp[zk4],zsY _ _⟩
   case round =>
    obtain⟨k,rfl,rfl,hk,hok,hsum,hb⟩:=hrel;have hsz:=hb.size;have Hok:=zaa hok;have Hb:=zaa hb;clear hok hb;by_cases hlt:k<ls.length
    ·have hlt':(k:Int)<(ls.length:Int):=by omega
     obtain⟨b,off,ia,ic,rfl,hbl,q0,-,-⟩:=zdp (zaU (uh Hb) (uh H)) hlt;have hsn:zk4 (ls.take (k+1))=zk4 (ls.take k)+(ls.getD k []).length:=by
      rw[zsU,zsF hlt,zsE,zsF hlt];exact zjF _ _
     have Hnx:Hid (znK (ls.getD k [])->∀ j,j<k+1->znK (ls.getD j [])):=zaa (λh9 j hj=>by
      by_cases e:j=k
      ·rw[e];exact h9
      ·exact uh Hok j (by omega))
     have Hno:Hid (¬ znK (ls.getD k [])->¬ zng ls):=zaa (λh9 hr=>h9 (hr.2.1 k hlt));unfold znK at Hnx Hno;generalize (ls.getD k []).length=n at *;generalize zk4 (ls.take k)=S at *;by_cases hn0:n=0
     ·have hnI:(((n:Nat):Int) == 0)=true:=by rw[hn0];rfl
      have Hf:=zaa (uh Hno (λh=>by omega));clear Hnx Hno;go_wp2;refine bodyPost_ret (v:=.bool false) ?zz5 rfl ?zz6
      case zz5=>simp[results,Tryz.results93,go_sem]
      case zz6=>exact⟨⟨false,rfl,⟨(λh=>absurd h (by decide)),λh=>absurd h (uh Hf)⟩⟩,uh Hb⟩
     ·have hnI:(((n:Nat):Int) == 0)=false:=by simpa using hn0
      by_cases hn6:65536<n
      ·have hn6I:(65536:Int)<(n:Int):=by omega
       have Hf:=zaa (uh Hno (λh=>by omega));clear Hnx Hno;go_wp2;refine bodyPost_ret (v:=.bool false) ?zz7 rfl ?zz8
       case zz7=>simp[results,Tryz.results93,go_sem]
       case zz8=>exact⟨⟨false,rfl,⟨(λh=>absurd h (by decide)),λh=>absurd h (uh Hf)⟩⟩,uh Hb⟩
      ·have hn6I:¬ (65536:Int)<(n:Int):=by omega
       have Hf:=zaa (uh Hnx ⟨by omega,by omega⟩);have hws:IntKind.i64.wrap ((S:Int)+(n:Int))=(S:Int)+(n:Int):=by rw[IntKind.wrap_i64];omega
       have Hs:=zaa hsn;clear Hnx Hno hsn;go_wp2;go_roundw
       case rel=>exact⟨k+1,by rw[uh Hs];simp,by go_num,by omega,uh Hf,by rw[uh Hs];omega,uh Hb⟩
       case measure=>simp[intOf];omega
    ·have hlt':¬ (k:Int)<(ls.length:Int):=by omega
     obtain rfl:k=ls.length:=by omega
     rw[zsN] at hsum ⊢;by_cases hr:zk4 ls<=1048576
     ·have hrI:((zk4 ls:Nat):Int)<=1048576:=by omega
      have hRm:zng ls:=⟨⟨by omega,by omega⟩,uh Hok,hr⟩;have Hf:Hid (∃ r:Bool,r=true/\(r=true↔zng ls)):=zaa ⟨true,rfl,⟨λ_=>hRm,λ_=>rfl⟩⟩;clear hRm;go_wp2;refine bodyPost_ret (v:=.bool true) ?zz9 rfl ?zz10
      case zz9=>simp[results,Tryz.results93,go_sem]
      case zz10 =>
       obtain⟨r,rfl,h9⟩:=uh Hf;exact⟨.inr ⟨rfl,h9.1 rfl⟩,uh Hb⟩
     ·have hrI:¬ ((zk4 ls:Nat):Int)<=1048576:=by omega
      have Hf:Hid (¬ zng ls):=zaa (λh=>hr h.2.2);go_wp2;refine bodyPost_ret (v:=.bool false) ?zz11 rfl ?zz12
      case zz11=>simp[results,Tryz.results93,go_sem]
      case zz12=>exact⟨.inl ⟨rfl,uh Hf⟩,uh Hb⟩
open Go.Sort
def riTo(l:List It)(k:Nat):Prop:=∀ i,i+1<k->ltI (l.getD i it0) (l.getD (i+1) it0)
theorem zkZ:∀ {l:List It},riTo l l.length->UpI l
 | [],_=>List.Pairwise.nil
 | [x],_=>List.pairwise_singleton _ _
 | x::y::l,h=>by
   have h1:UpI (y::l):=zkZ (λi hi=>by
    have:=h (i+1) (by simp at hi ⊢;omega)
    simpa using this)
   have hxy:ltI x y:=by simpa using h 0 (by simp)
   refine List.Pairwise.cons (λz hz=>?_) h1;rcases List.mem_cons.1 hz with rfl | hz
   ·exact hxy
   ·exact zbr hxy (List.rel_of_pairwise_cons h1 hz)
theorem cmpI_ge{x y:It}:(0<=zdD x y)↔¬ ltI x y:=by
 have h:=zcY x y;unfold ltOf at h;constructor
 ·intro h1 h2;rw[decide_eq_true h2] at h;have:=of_decide_eq_true h;omega
 ·intro h1;rw[decide_eq_false h1] at h;have:=of_decide_eq_false h;omega
theorem zph(a:Option Addr)(c:Nat)(l:List It)(hl:l.length<=281474976710656)(w:World)(h:zcy w.heap.size w a l) :
 Calls Tryz.prog 96 #[.slice a l.length c] w λe w'=>(∃ r:Bool,e=.returned (.bool r)/\(r=true↔UpI l))/\Below w.heap.size w w':=by
 have H:=zaa h;clear h;go_enter Tryz.func96,Tryz.ntmps96;go_wp2_with fail
 go_loopw [3] (λx wr=>∃ k:Nat,x=.int .i64 (k:Int)/\1<=k/\(k<=l.length\/k=1)/\riTo l k/\Below w.heap.size w wr) (λx _=>l.length+1 - (intOf x).toNat)
 case atStart=>exact⟨1,rfl,zsG _,.inr rfl,λi hi=>by omega,zsY _ _⟩
 case round =>
  obtain⟨k,rfl,hk1,hk,hri,hb⟩:=hrel;have hsz:=hb.size;have Hri:=zaa hri;have Hb:=zaa hb;clear hri hb;by_cases hlt:k<l.length
  ·obtain⟨k',rfl⟩:∃ k',k=k'+1:=⟨k - 1,by omega⟩;have hlt':(k':Int)+1<(l.length:Int):=by omega
   obtain⟨b,off,rfl,hbl,p0,p1,p2⟩:=zby (zaw (uh Hb) (uh H)) (k:=k') (by omega);obtain⟨b',off',e',-,q0,q1,q2⟩:=zby (zaw (uh Hb) (uh H)) hlt;obtain⟨rfl,rfl⟩:b=b'/\off=off':=by simpa using e'
   have hw1:IntKind.i64.wrap ((k':Int))=(k':Int):=by rw[IntKind.wrap_i64];omega
   have hw2:IntKind.i64.wrap ((k':Int)+1 - 1)=(k':Int):=by rw[IntKind.wrap_i64];omega
   have hge2:(0:Int)<=(k':Int)+1:=by omega
   have hlt1:(k':Int)<(l.length:Int):=by omega
   have hge1:0<=(k':Int):=by omega
   have Hx1:=zaa (show l.getD k' it0=l.getD k' it0 from rfl)
   have HC:Hid (∀ (x y:It) (W:World),Calls Tryz.prog 72 #[.agg #[.int .i64 x.1,.int .i64 x.2.1,.int .i64 x.2.2],.agg #[.int .i64 y.1,.int .i64 y.2.1,.int .i64 y.2.2]] W λe w'=>e=.returned (.int .i64 (zdD x y))/\Below W.heap.size W w'):=zaa (λx y W=>(zjg x y W).mono (by
    rintro e w' ⟨h1,q,os,rfl⟩
    exact⟨h1,⟨rfl,rfl,rfl,by show W.heap.size<=(W.heap ++ os).size;rw[Array.size_append];omega,λj hj=>heap_grow_old (W.drewN q) os hj⟩⟩))
   have Hnx:Hid (ltI (l.getD k' it0) (l.getD (k'+1) it0)->riTo l (k'+1+1)):=zaa (λh9 i hi=>by
    by_cases e:i=k'
    ·subst e;simpa using h9
    ·exact uh Hri i (by omega))
   have Hno:Hid (¬ ltI (l.getD k' it0) (l.getD (k'+1) it0)->¬ UpI l):=zaa (λh9 hu=>h9 (zdG hu (by omega) hlt));clear Hx1;generalize l.getD k' it0=x at *;generalize l.getD (k'+1) it0=y at *;have HCc:=zaa (uh HC x y);generalize hcv:zdD x y=cv at *;have hbw:b<wr.heap.size:=by omega
   have HK:Hid (∀ W:World,Below wr.heap.size wr W->W.cell? ⟨b,off+k' * 3,none⟩=some (.int .i64 x.1)/\W.cell? ⟨b,off+k' * 3+1,none⟩=some (.int .i64 x.2.1)/\W.cell? ⟨b,off+k' * 3+2,none⟩=some (.int .i64 x.2.2)/\W.cell? ⟨b,off+(k'+1) * 3,none⟩=some (.int .i64 y.1)/\W.cell? ⟨b,off+(k'+1) * 3+1,none⟩=some (.int .i64 y.2.1)/\W.cell? ⟨b,off+(k'+1) * 3+2,none⟩=some (.int .i64 y.2.2)):=zaa (λW hb=>⟨(hb.cell (p:=⟨b,off+k' * 3,none⟩) hbw).trans p0,(hb.cell (p:=⟨b,off+k' * 3+1,none⟩) hbw).trans p1,(hb.cell (p:=⟨b,off+k' * 3+2,none⟩) hbw).trans p2,(hb.cell (p:=⟨b,off+(k'+1) * 3,none⟩) hbw).trans q0,(hb.cell (p:=⟨b,off+(k'+1) * 3+1,none⟩) hbw).trans q1,(hb.cell (p:=⟨b,off+(k'+1) * 3+2,none⟩) hbw).trans q2⟩);by_cases hge:0<=cv
   ·have Hf:=zaa (uh Hno (cmpI_ge.1 (by rw[hcv];exact hge)));clear Hnx Hno HC;go_wp2_with fail
    go_region_held3 (λW:World=>W.cell? ⟨b,off+k' * 3,none⟩=some (.int .i64 x.1)/\W.cell? ⟨b,off+k' * 3+1,none⟩=some (.int .i64 x.2.1)/\W.cell? ⟨b,off+k' * 3+2,none⟩=some (.int .i64 x.2.2)/\W.cell? ⟨b,off+(k'+1) * 3,none⟩=some (.int .i64 y.1)/\W.cell? ⟨b,off+(k'+1) * 3+1,none⟩=some (.int .i64 y.2.1)/\W.cell? ⟨b,off+(k'+1) * 3+2,none⟩=some (.int .i64 y.2.2))
     (first | exact⟨p0,p1,p2,q0,q1,q2⟩ | exact uh HK _ hS | fail)
     (first | (go_at_call 72;refine(uh HCc _).mono ?_;rintro e W2 ⟨rfl,hb2⟩;have hS:Below wr.heap.size wr W2:=⟨hb2.os,hb2.tape,hb2.output,hb2.size,hb2.block⟩;have Hb3:=zaa ((uh Hb).trans (zab hS hsz))) | fail)
    go_wp2;refine bodyPost_ret (v:=.bool false) ?zz1 rfl ⟨⟨false,rfl,⟨(λh=>absurd h (by decide)),λh=>absurd h (uh Hf)⟩⟩,uh Hb3⟩
    case zz1=>simp[results,Tryz.results96,go_sem]
   ·have Hf:=zaa (uh Hnx (Classical.not_not.1 (λh=>hge (by rw[<- hcv];exact cmpI_ge.2 h))));clear Hnx Hno HC;go_wp2_with fail
    go_region_held3 (λW:World=>W.cell? ⟨b,off+k' * 3,none⟩=some (.int .i64 x.1)/\W.cell? ⟨b,off+k' * 3+1,none⟩=some (.int .i64 x.2.1)/\W.cell? ⟨b,off+k' * 3+2,none⟩=some (.int .i64 x.2.2)/\W.cell? ⟨b,off+(k'+1) * 3,none⟩=some (.int .i64 y.1)/\W.cell? ⟨b,off+(k'+1) * 3+1,none⟩=some (.int .i64 y.2.1)/\W.cell? ⟨b,off+(k'+1) * 3+2,none⟩=some (.int .i64 y.2.2))
     (first | exact⟨p0,p1,p2,q0,q1,q2⟩ | exact uh HK _ hS | fail)
     (first | (go_at_call 72;refine(uh HCc _).mono ?_;rintro e W2 ⟨rfl,hb2⟩;have hS:Below wr.heap.size wr W2:=⟨hb2.os,hb2.tape,hb2.output,hb2.size,hb2.block⟩;have Hb3:=zaa ((uh Hb).trans (zab hS hsz))) | fail)
    go_wp2;go_roundw
    case rel=>exact⟨k'+1+1,by go_num,by omega,.inl (by omega),uh Hf,uh Hb3⟩
    case measure=>simp[intOf];omega
  ·have hlt':¬ (k:Int)<(l.length:Int):=by omega
   have hu:UpI l:=by
    rcases hk with hk | hk
    ·obtain rfl:k=l.length:=by omega
     exact zkZ (uh Hri)
    ·exact zkZ (λi hi=>by omega)
   go_wp2;refine bodyPost_ret (v:=.bool true) ?zz2 rfl ⟨rfl,uh Hb⟩
   case zz2=>simp[results,Tryz.results96,go_sem]
theorem cmpB(x y:It)(W:World):Calls Tryz.prog 72 #[.agg #[.int .i64 x.1,.int .i64 x.2.1,.int .i64 x.2.2],.agg #[.int .i64 y.1,.int .i64 y.2.1,.int .i64 y.2.2]] W λe w'=>e=.returned (.int .i64 (zdD x y))/\Below W.heap.size W w' :=
 (zjg x y W).mono (by
  rintro e w' ⟨h1,q,os,rfl⟩
  exact⟨h1,⟨rfl,rfl,rfl,by show W.heap.size<=(W.heap ++ os).size;rw[Array.size_append];omega,λj hj=>heap_grow_old (W.drewN q) os hj⟩⟩)
theorem cmpI_neg{x y:It}:(zdD x y<0)↔ltI x y:=by
 have:=@cmpI_ge x y;constructor
 ·intro h;exact Classical.not_not.1 (λhn=>by have:=this.2 hn;omega)
 ·intro h;have:¬ 0<=zdD x y:=λh2=>this.1 h2 h;omega
theorem zqX(x y:It):(zdD x y=0)↔x=y:=by
 constructor
 ·intro h;have h1:=zcY x y;have h2:=zcY y x;have n1:¬ ltI x y:=λhl=>by have:=cmpI_neg.2 hl;omega
  rcases zgV x y with k | k | k
  ·exact absurd k n1
  ·exact k
  ·exfalso;obtain⟨x0,x1,x2⟩:=x;obtain⟨y0,y1,y2⟩:=y;unfold zdD orI Lib.compareInt at h;unfold ltI at k;simp only at h k
   split at h <;> (try split at h) <;> (try split at h) <;> (try split at h) <;> (try split at h) <;> (try split at h) <;> omega
 ·rintro rfl;unfold zdD orI Lib.compareInt;simp
theorem zw8(a:Option Addr)(c:Nat)(l:List It)(hl:l.length<=281474976710656)(hup:UpI l)(x:It)(w:World)(h:zcy w.heap.size w a l) :
 Calls Tryz.prog 140 #[.slice a l.length c,.agg #[.int .i64 x.1,.int .i64 x.2.1,.int .i64 x.2.2],.func (.func 72) #[] #[]] w λe w'=>∃ i:Int,e=.returned (.tuple #[.int .i64 i,.bool (decide (x ∈ l))])/\Below w.heap.size w w':=by
 have H:=zaa h;have Hup:=zaa hup;clear h hup;have eg:∀ args w,(callFunc 72 args).run Tryz.prog w=.ok (.enter 72 args) w:=enters_of Tryz.func72 (by kernel_rfl) rfl;go_enter Tryz.func140,Tryz.ntmps140;go_wp2_with fail;obtain⟨W1,hW1⟩:∃ W1,W1=w.alloc (.cells #[.int .i64 x.1,.int .i64 x.2.1,.int .i64 x.2.2] 57):=⟨_,rfl⟩;have hb1:Below w.heap.size w W1:=by rw[hW1];exact(zsY _ _).alloc (zsG _) _
 have hx1:W1.heap[w.heap.size]? = some (.cells #[.int .i64 x.1,.int .i64 x.2.1,.int .i64 x.2.2] 57 (0,0)):=by rw[hW1];exact zsH _ _
 have hs1:=hb1.size;have hlt1:=(zsO.1 hx1).1;rw[<- hW1];have H1:=zaa (zaI (zaw hb1 (uh H)) hs1);have Hb1:=zaa hb1;have Hx1:=zaa hx1;clear hW1 hb1 hx1 H
 go_loopw [9,10] (λu v wr=>∃ lo hi:Nat,u=.int .i64 (lo:Int)/\v=.int .i64 (hi:Int)/\lo<=hi/\hi<=l.length/\(∀ j,j<lo->ltI (l.getD j it0) x)/\(∀ j,hi<=j->j<l.length->¬ ltI (l.getD j it0) x)/\Below W1.heap.size W1 wr) (λu v _=>(intOf v).toNat - (intOf u).toNat)
 case atStart=>exact⟨0,l.length,rfl,rfl,zsK _,zsG _,λj hj=>absurd hj (Nat.not_lt_zero _),λj h1 h2=>by omega,zsY _ _⟩
 case round =>
  obtain⟨lo,hi,rfl,rfl,hlh,hin,hA,hB,hb⟩:=hrel;have hsz:=hb.size;have HA:=zaa hA;have HB:=zaa hB;have Hb:=zaa hb;clear hA hB hb;by_cases hlt:lo<hi
  ·have hlt':(lo:Int)<(hi:Int):=by omega
   go_wp2_with fail;have hmI:((lo:Int)+(hi:Int)) / 2=(((lo+hi) / 2:Nat):Int):=by omega
   rw[hmI];clear hmI;have hm1:lo<=(lo+hi) / 2:=by omega
   have hm2:(lo+hi) / 2<hi:=by omega
   generalize (lo+hi) / 2=m at *;have hml:(m:Int)<(l.length:Int):=by omega
   have hmw:IntKind.i64.wrap ((m:Int)+1)=(m:Int)+1:=by rw[IntKind.wrap_i64];omega
   obtain⟨b,off,rfl,hbl,p0,p1,p2⟩:=zby (zaw (uh Hb) (uh H1)) (k:=m) (by omega);have hxw:=((uh Hb).block _ hlt1).trans (uh Hx1);have z0:=zac hxw 0 rfl;have z1:=zac hxw 1 rfl;have z2:=zac hxw 2 rfl;have hbw:b<wr.heap.size:=by omega
   have hww:w.heap.size<wr.heap.size:=by omega
   have HCc:=zaa (cmpB (l.getD m it0) x)
   have Hlo:Hid (ltI (l.getD m it0) x->∀ j,j<m+1->ltI (l.getD j it0) x):=zaa (λh9 j hj=>by
    by_cases e:j=m
    ·rw[e];exact h9
    ·exact zbr (zdG (uh Hup) (show j<m by omega) (by omega)) h9)
   have Hhi:Hid (¬ ltI (l.getD m it0) x->∀ j,m<=j->j<l.length->¬ ltI (l.getD j it0) x):=zaa (λh9 j hj hjl h8=>by
    by_cases e:j=m
    ·rw[e] at h8;exact h9 h8
    ·exact h9 (zbr (zdG (uh Hup) (show m<j by omega) hjl) h8))
   have Hng:=zaa (@cmpI_neg (l.getD m it0) x);clear hxw;generalize l.getD m it0=y at *;generalize zdD y x=cv at *;have HK:Hid (∀ W:World,Below wr.heap.size wr W->W.cell? ⟨b,off+m * 3,none⟩=some (.int .i64 y.1)/\W.cell? ⟨b,off+m * 3+1,none⟩=some (.int .i64 y.2.1)/\W.cell? ⟨b,off+m * 3+2,none⟩=some (.int .i64 y.2.2)/\W.cell? ⟨w.heap.size,0,none⟩=some (.int .i64 x.1)/\W.cell? ⟨w.heap.size,1,none⟩=some (.int .i64 x.2.1)/\W.cell? ⟨w.heap.size,2,none⟩=some (.int .i64 x.2.2)):=zaa (λW hb=>⟨(hb.cell (p:=⟨b,off+m * 3,none⟩) hbw).trans p0,(hb.cell (p:=⟨b,off+m * 3+1,none⟩) hbw).trans p1,(hb.cell (p:=⟨b,off+m * 3+2,none⟩) hbw).trans p2,(hb.cell (p:=⟨w.heap.size,0,none⟩) hww).trans z0,(hb.cell (p:=⟨w.heap.size,1,none⟩) hww).trans z1,(hb.cell (p:=⟨w.heap.size,2,none⟩) hww).trans z2⟩);by_cases hc:cv<0
   ·have Hf:=zaa (uh Hlo ((uh Hng).1 hc));clear Hlo Hhi Hng
    go_region_held3 (λW:World=>W.cell? ⟨b,off+m * 3,none⟩=some (.int .i64 y.1)/\W.cell? ⟨b,off+m * 3+1,none⟩=some (.int .i64 y.2.1)/\W.cell? ⟨b,off+m * 3+2,none⟩=some (.int .i64 y.2.2)/\W.cell? ⟨w.heap.size,0,none⟩=some (.int .i64 x.1)/\W.cell? ⟨w.heap.size,1,none⟩=some (.int .i64 x.2.1)/\W.cell? ⟨w.heap.size,2,none⟩=some (.int .i64 x.2.2))
     (first | exact⟨p0,p1,p2,z0,z1,z2⟩ | exact uh HK _ hS | fail)
     (first | (go_at_fn 72;refine(uh HCc _).mono ?_;rintro e W2 ⟨rfl,hb2⟩;have hS:Below wr.heap.size wr W2:=⟨hb2.os,hb2.tape,hb2.output,hb2.size,hb2.block⟩;have Hb3:=zaa ((uh Hb).trans (zab hS hsz))) | fail)
    go_wp2;go_roundw
    case rel=>exact⟨m+1,hi,by go_num,rfl,by omega,hin,uh Hf,uh HB,uh Hb3⟩
    case measure=>simp[intOf];omega
   ·have Hf:=zaa (uh Hhi (λh=>hc ((uh Hng).2 h)));clear Hlo Hhi Hng
    go_region_held3 (λW:World=>W.cell? ⟨b,off+m * 3,none⟩=some (.int .i64 y.1)/\W.cell? ⟨b,off+m * 3+1,none⟩=some (.int .i64 y.2.1)/\W.cell? ⟨b,off+m * 3+2,none⟩=some (.int .i64 y.2.2)/\W.cell? ⟨w.heap.size,0,none⟩=some (.int .i64 x.1)/\W.cell? ⟨w.heap.size,1,none⟩=some (.int .i64 x.2.1)/\W.cell? ⟨w.heap.size,2,none⟩=some (.int .i64 x.2.2))
     (first | exact⟨p0,p1,p2,z0,z1,z2⟩ | exact uh HK _ hS | fail)
     (first | (go_at_fn 72;refine(uh HCc _).mono ?_;rintro e W2 ⟨rfl,hb2⟩;have hS:Below wr.heap.size wr W2:=⟨hb2.os,hb2.tape,hb2.output,hb2.size,hb2.block⟩;have Hb3:=zaa ((uh Hb).trans (zab hS hsz))) | fail)
    go_wp2;go_roundw
    case rel=>exact⟨lo,m,rfl,rfl,hm1,by omega,uh HA,uh Hf,uh Hb3⟩
    case measure=>simp[intOf];omega
  ·have hlt':¬ (lo:Int)<(hi:Int):=by omega
   obtain rfl:lo=hi:=by omega
   by_cases hll:lo<l.length
   ·have hll':(lo:Int)<(l.length:Int):=by omega
    obtain⟨b,off,rfl,hbl,p0,p1,p2⟩:=zby (zaw (uh Hb) (uh H1)) (k:=lo) (by omega);have hxw:=((uh Hb).block _ hlt1).trans (uh Hx1);have z0:=zac hxw 0 rfl;have z1:=zac hxw 1 rfl;have z2:=zac hxw 2 rfl;have hbw:b<wr.heap.size:=by omega
    have hww:w.heap.size<wr.heap.size:=by omega
    have HCc:=zaa (cmpB (l.getD lo it0) x)
    have Hmem:Hid (decide (x ∈ l)=decide (l.getD lo it0=x)):=zaa (decide_eq_decide.2 ⟨λhx=>by
     obtain⟨i,hi,rfl⟩:=zsT.1 hx;have e:l.getD i it0=l[i]:=by rw[zsE,zsF hi];rfl
     have h1:lo<=i:=Nat.le_of_not_lt (λh9=>zdN _ (by have:=uh HA i h9;rw[e] at this;exact this));have h2:¬ lo<i:=λh9=>uh HB lo (zsG _) hll (by rw[<- e];exact zdG (uh Hup) h9 hi);obtain rfl:i=lo:=by omega
     exact e,λh9=>by rw[<- h9];exact zbR hll⟩)
    have Hz:=zaa (zqX (l.getD lo it0) x);clear hxw;generalize l.getD lo it0=y at *;generalize zdD y x=cv at *;have HK:Hid (∀ W:World,Below wr.heap.size wr W->W.cell? ⟨b,off+lo * 3,none⟩=some (.int .i64 y.1)/\W.cell? ⟨b,off+lo * 3+1,none⟩=some (.int .i64 y.2.1)/\W.cell? ⟨b,off+lo * 3+2,none⟩=some (.int .i64 y.2.2)/\W.cell? ⟨w.heap.size,0,none⟩=some (.int .i64 x.1)/\W.cell? ⟨w.heap.size,1,none⟩=some (.int .i64 x.2.1)/\W.cell? ⟨w.heap.size,2,none⟩=some (.int .i64 x.2.2)):=zaa (λW hb=>⟨(hb.cell (p:=⟨b,off+lo * 3,none⟩) hbw).trans p0,(hb.cell (p:=⟨b,off+lo * 3+1,none⟩) hbw).trans p1,(hb.cell (p:=⟨b,off+lo * 3+2,none⟩) hbw).trans p2,(hb.cell (p:=⟨w.heap.size,0,none⟩) hww).trans z0,(hb.cell (p:=⟨w.heap.size,1,none⟩) hww).trans z1,(hb.cell (p:=⟨w.heap.size,2,none⟩) hww).trans z2⟩);by_cases hc:cv=0
    ·have hcI:(cv == 0)=true:=by rw[hc];rfl
     have HMt:Hid (decide (x ∈ l)=true):=zaa (by rw[uh Hmem,decide_eq_true_eq];exact(uh Hz).1 hc);clear hc Hmem Hz;go_wp2_with fail
     go_region_held3 (λW:World=>W.cell? ⟨b,off+lo * 3,none⟩=some (.int .i64 y.1)/\W.cell? ⟨b,off+lo * 3+1,none⟩=some (.int .i64 y.2.1)/\W.cell? ⟨b,off+lo * 3+2,none⟩=some (.int .i64 y.2.2)/\W.cell? ⟨w.heap.size,0,none⟩=some (.int .i64 x.1)/\W.cell? ⟨w.heap.size,1,none⟩=some (.int .i64 x.2.1)/\W.cell? ⟨w.heap.size,2,none⟩=some (.int .i64 x.2.2))
      (first | exact⟨p0,p1,p2,z0,z1,z2⟩ | exact uh HK _ hS | fail)
      (first | (go_at_fn 72;refine(uh HCc _).mono ?_;rintro e W2 ⟨rfl,hb2⟩;have hS:Below wr.heap.size wr W2:=⟨hb2.os,hb2.tape,hb2.output,hb2.size,hb2.block⟩;have Hb3:=zaa ((uh Hb).trans (zab hS hsz))) | fail)
     go_wp2;refine bodyPost_ret (v:=.tuple #[.int .i64 lo,.bool true]) ?zz1 rfl ⟨lo,by rw[uh HMt],(uh Hb1).trans (zab (uh Hb3) hs1)⟩
     case zz1=>simp[results,Tryz.results140,go_sem]
    ·have hcI:(cv == 0)=false:=by simpa using hc
     have HMt:Hid (decide (x ∈ l)=false):=zaa (by rw[uh Hmem,decide_eq_false_iff_not];exact λh=>hc ((uh Hz).2 h));clear hc Hmem Hz;go_wp2_with fail
     go_region_held3 (λW:World=>W.cell? ⟨b,off+lo * 3,none⟩=some (.int .i64 y.1)/\W.cell? ⟨b,off+lo * 3+1,none⟩=some (.int .i64 y.2.1)/\W.cell? ⟨b,off+lo * 3+2,none⟩=some (.int .i64 y.2.2)/\W.cell? ⟨w.heap.size,0,none⟩=some (.int .i64 x.1)/\W.cell? ⟨w.heap.size,1,none⟩=some (.int .i64 x.2.1)/\W.cell? ⟨w.heap.size,2,none⟩=some (.int .i64 x.2.2))
      (first | exact⟨p0,p1,p2,z0,z1,z2⟩ | exact uh HK _ hS | fail)
      (first | (go_at_fn 72;refine(uh HCc _).mono ?_;rintro e W2 ⟨rfl,hb2⟩;have hS:Below wr.heap.size wr W2:=⟨hb2.os,hb2.tape,hb2.output,hb2.size,hb2.block⟩;have Hb3:=zaa ((uh Hb).trans (zab hS hsz))) | fail)
     go_wp2;refine bodyPost_ret (v:=.tuple #[.int .i64 lo,.bool false]) ?zz2 rfl ⟨lo,by rw[uh HMt],(uh Hb1).trans (zab (uh Hb3) hs1)⟩
     case zz2=>simp[results,Tryz.results140,go_sem]
   ·have hll':¬ (lo:Int)<(l.length:Int):=by omega
    have HMt:=zaa (show decide (x ∈ l)=false from decide_eq_false (λhx=>by
     obtain⟨i,hi,rfl⟩:=zsT.1 hx;have e:l.getD i it0=l[i]:=by rw[zsE,zsF hi];rfl
     have:=uh HA i (by omega);rw[e] at this
     exact zdN _ this))
    go_wp2_with fail;go_quiet (fail);go_wp2;refine bodyPost_ret (v:=.tuple #[.int .i64 lo,.bool false]) ?zz3 rfl ⟨lo,by rw[uh HMt],zap ((uh Hb1).trans (zab (uh Hb) hs1)) _⟩
    case zz3=>simp[results,Tryz.results140,go_sem]
theorem zkm(a:Option Addr)(c:Nat)(l:List It)(hl:l.length<=281474976710656)(hup:UpI l)(x:It)(w:World)(h:zcy w.heap.size w a l) :
 Calls Tryz.prog 97 #[.slice a l.length c,.agg #[.int .i64 x.1,.int .i64 x.2.1,.int .i64 x.2.2]] w λe w'=>e=.returned (.bool (decide (x ∈ l)))/\Below w.heap.size w w':=by
 have HB:=zaa (λ(W:World) (hb:Below w.heap.size w W)=>zw8 a c l hl hup x W (zaI (zaw hb h) hb.size));clear h hup;go_enter Tryz.func97,Tryz.ntmps97;go_wp2_with fail;refine(uh HB _ ((zsY _ _).alloc (zsG _) _)).mono ?_;rintro e w2 ⟨i,rfl,hb2⟩;have Hb:=zaa ((zsY w.heap.size w).alloc (zsG _) (.cells #[.int .i64 x.1,.int .i64 x.2.1,.int .i64 x.2.2] 57) |>.trans (zab hb2 (by simp)));clear hb2 HB;go_wp2;go_ret;exact⟨rfl,uh Hb⟩
end Go.Proofs.YtieciibnajeibaaGreatDoor
namespace Go.Proofs.YtieciibnajeibaaGreatDoor
open Go.RowKit Go.Maps
def zl0(G:Gm)(st:List It):Prop:=clV G st=0/\(clR G st).length=st.length
theorem zki(R0:Nat->Prop)(B cb gb tb:Nat)(G:Gm)(hG:GOk G)(w:World)(hc0:ClB R0 B w cb gb tb G)(ht:RsT R0 w G tb)(hR0:∀ k,R0 k->k<w.heap.size)(htab:Tb w.heap.size w)(ia:Option Addr)(ic:Nat)(l:List It)(hl:l.length<=1000000000)(hit:∀ x,x ∈ l->zcv G x=true)(hi:zcy w.heap.size w ia l)(hia:∀ x,ia=some x->x.block≠tb) :
 Calls Tryz.prog 98 #[.pointer (some ⟨cb,0,none⟩),.slice ia l.length ic] w λe w'=>(∃ r:Bool,e=.returned (.bool r)/\(r=true↔zl0 G l))/\Fr (λk=>k=tb) w w'/\∃ R':Nat->Prop,ClB R' B w' cb gb tb G/\RsT R' w' G tb/\(∀ k,R0 k->R' k)/\(∀ k,R' k->R0 k\/w.heap.size<=k)/\∀ k,R' k->k<w'.heap.size:=by
 have HC:=zaa (zeS R0 B cb gb tb G hG w hc0 ht hR0 htab ia ic l hl hit hi hia);clear hc0 ht hR0 htab hi hia;go_enter Tryz.func98,Tryz.ntmps98;go_wp2_with fail;refine(uh HC).mono ?_;rintro e w2 ⟨a2,c2,rfl,-,hf2,hrs2⟩;have Hf:=zaa hf2;have Hr:=zaa hrs2;clear hf2 hrs2 HC;by_cases hv:clV G l=0
 ·by_cases hn:(clR G l).length=l.length
  ·have Hp:=zaa (show zl0 G l from⟨hv,hn⟩);have hvI:(clV G l == 0)=true:=by rw[hv];rfl
   have hnI:(((clR G l).length:Int) == (l.length:Int))=true:=by rw[hn];exact beq_self_eq_true _
   clear hv hn;generalize (clR G l).length=n at *;generalize clV G l=v at *;go_wp2;refine bodyPost_ret (v:=.bool true) ?zz1 rfl ⟨⟨true,rfl,⟨λ_=>uh Hp,λ_=>rfl⟩⟩,uh Hf,uh Hr⟩
   case zz1=>simp[results,Tryz.results98,go_sem]
  ·have Hp:=zaa (show ¬ zl0 G l from λh=>hn h.2);have hvI:(clV G l == 0)=true:=by rw[hv];rfl
   have hnI:(((clR G l).length:Int) == (l.length:Int))=false:=by rw[beq_eq_false_iff_ne];intro h;exact hn (by omega)
   clear hv hn;generalize (clR G l).length=n at *;generalize clV G l=v at *;go_wp2;refine bodyPost_ret (v:=.bool false) ?zz2 rfl ⟨⟨false,rfl,⟨(λh=>absurd h (by decide)),λh=>absurd h (uh Hp)⟩⟩,uh Hf,uh Hr⟩
   case zz2=>simp[results,Tryz.results98,go_sem]
 ·have Hp:=zaa (show ¬ zl0 G l from λh=>hv h.1);have hvI:(clV G l == 0)=false:=by simpa using hv
  clear hv;generalize (clR G l).length=n at *;generalize clV G l=v at *;go_wp2;refine bodyPost_ret (v:=.bool false) ?zz3 rfl ⟨⟨false,rfl,⟨(λh=>absurd h (by decide)),λh=>absurd h (uh Hp)⟩⟩,uh Hf,uh Hr⟩
  case zz3=>simp[results,Tryz.results98,go_sem]
theorem ztH(sa pa ta:Option Addr)(sc pc tc:Nat)(st:List It)(sp:List Sp)(tp:List It)(hs:st.length<=281474976710656)(hp:sp.length<=281474976710656)(ht:tp.length<=1000000000)(hup:UpI st)(w:World)(h1:zcy w.heap.size w sa st)(h2:zhF w.heap.size w pa sp)(h3:zcy w.heap.size w ta tp) :
 Calls Tryz.prog 100 #[.slice sa st.length sc,.slice pa sp.length pc,.slice ta tp.length tc] w λe w'=>(∃ r:Bool,e=.returned (.bool r)/\(r=true↔(sp=zcI tp/\∀ i,i ∈ tp->i ∈ st)))/\Below w.heap.size w w':=by
 have HC:=zaa (zmY ta tc tp ht w h3);have H1:=zaa h1;have H2:=zaa h2;have H3:=zaa h3;have Hup:=zaa hup;clear h1 h2 h3 hup;go_enter Tryz.func100,Tryz.ntmps100;go_wp2_with fail;refine(uh HC).mono ?_;rintro e w2 ⟨a2,c2,rfl,hown2,hb2⟩;obtain⟨a2',c2',e2,hsp2⟩:=zjJ hown2;obtain⟨rfl,rfl⟩:a2=a2'/\c2=c2':=by simpa using e2
 have HE:=zaa (zn9 pa a2 pc c2 sp (zcI tp) hp w2 (zfD (zfE hb2 (uh H2)) hb2.size) hsp2);have Hb2:=zaa hb2;have hs2:=hb2.size;clear hown2 hsp2 HC hb2;go_wp2_with fail;refine(uh HE).mono ?_;rintro e w3 ⟨rfl,q,rfl⟩;clear HE;by_cases he:sp=zcI tp
 ·have hd:decide (sp=zcI tp)=true:=decide_eq_true he;rw[hd];clear hd;have He:=zaa he;clear he;go_wp2_with fail;have hbq:Below w.heap.size w (w2.drewN q):=zap (uh Hb2) q;have hsq:=hbq.size;generalize w2.drewN q=w3 at *;have Hbq:=zaa hbq;clear hbq
  go_loopw [16] (λx wr=>∃ k:Nat,x=.int .i64 (k:Int)/\k<=tp.length/\(∀ j,j<k->tp.getD j it0 ∈ st)/\Below w.heap.size w wr) (λx _=>tp.length - (intOf x).toNat)
  case atStart=>exact⟨0,rfl,zsK _,λj hj=>absurd hj (Nat.not_lt_zero _),uh Hbq⟩
  case round =>
   obtain⟨k,rfl,hk,hok,hb⟩:=hrel;have hsz:=hb.size;have Hok:=zaa hok;have Hb:=zaa hb;clear hok hb;by_cases hlt:k<tp.length
   ·have hlt':(k:Int)<(tp.length:Int):=by omega
    obtain⟨b,off,rfl,hbl,x0,x1,x2⟩:=zby (zaw (uh Hb) (uh H3)) hlt;have HH:=zaa (λ(W:World) (hb:Below w.heap.size w W)=>zkm sa sc st hs (uh Hup) (tp.getD k it0) W (zaI (zaw hb (uh H1)) hb.size))
    have Hnx:Hid (tp.getD k it0 ∈ st->∀ j,j<k+1->tp.getD j it0 ∈ st):=zaa (λh9 j hj=>by
     by_cases e:j=k
     ·rw[e];exact h9
     ·exact uh Hok j (by omega))
    have Hno:Hid (tp.getD k it0 ∉ st->¬ (sp=zcI tp/\∀ i,i ∈ tp->i ∈ st)):=zaa (λh9 h8=>h9 (h8.2 _ (zbR hlt)));generalize tp.getD k it0=x at *;go_wp2_with fail;have hbx:Below w.heap.size w (wr.alloc (.cells #[.int .i64 x.1,.int .i64 x.2.1,.int .i64 x.2.2] 57)):=(uh Hb).alloc hsz _;have hsx:=hbx.size;generalize wr.alloc (.cells #[.int .i64 x.1,.int .i64 x.2.1,.int .i64 x.2.2] 57)=wx at *;refine(uh HH _ hbx).mono ?_;rintro e w4 ⟨rfl,hb4⟩;have Hb4:=zaa (hbx.trans (zab hb4 hsx));by_cases hm:x ∈ st
    ·have Hf:=zaa (uh Hnx hm);have hd:decide (x ∈ st)=true:=decide_eq_true hm;rw[hd];clear hb4 hbx HH Hnx Hno hm hd;go_wp2;go_roundw
     case rel=>exact⟨k+1,by go_num,by omega,uh Hf,uh Hb4⟩
     case measure=>simp[intOf];omega
    ·have Hf:=zaa (uh Hno hm);have hd:decide (x ∈ st)=false:=decide_eq_false hm;rw[hd];clear hb4 hbx HH Hnx Hno hm hd;go_wp2;refine bodyPost_ret (v:=.bool false) ?zz4 rfl ⟨⟨false,rfl,⟨(λh=>absurd h (by decide)),λh=>absurd h (uh Hf)⟩⟩,uh Hb4⟩
     case zz4=>simp[results,Tryz.results100,go_sem]
   ·have hlt':¬ (k:Int)<(tp.length:Int):=by omega
    obtain rfl:k=tp.length:=by omega
    have Hf:Hid (sp=zcI tp/\∀ i,i ∈ tp->i ∈ st):=zaa ⟨uh He,λi hi=>by
     obtain⟨j,hj,rfl⟩:=zsT.1 hi;have:=uh Hok j hj
     rwa [zsE,zsF hj] at this⟩
    go_wp2;refine bodyPost_ret (v:=.bool true) ?zz5 rfl ⟨.inr ⟨rfl,(uh Hf).1,λa b c h=>(uh Hf).2 _ h⟩,uh Hb⟩
    case zz5=>simp[results,Tryz.results100,go_sem]
 ·have hd:decide (sp=zcI tp)=false:=decide_eq_false he;rw[hd];clear hd;have He:=zaa he;clear he;go_wp2;refine bodyPost_ret (v:=.bool false) ?zz3 rfl ⟨⟨false,rfl,⟨(λh=>absurd h (by decide)),λh=>absurd h.1 (uh He)⟩⟩,zap (uh Hb2) _⟩
  case zz3=>simp[results,Tryz.results100,go_sem]
end Go.Proofs.YtieciibnajeibaaGreatDoor

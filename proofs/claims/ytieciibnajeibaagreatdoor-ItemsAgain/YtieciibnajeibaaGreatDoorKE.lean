import Derived.Test.YtieciibnajeibaaGreatDoorKB
import Derived.Sort.MapsRangeIn
set_option maxHeartbeats 8000000
set_option maxRecDepth 100000
namespace Go.Proofs.YtieciibnajeibaaGreatDoor
open Go.RowKit Go.Shelf Go.Maps
attribute [local go_sem] Oper.semAt_some
def zbS(G:Gm)(p:Nat):Nat:=(G.prods.getD p pd0).left.toNat
theorem zed{G:Gm}(hG:GOk G){r p:Nat}:p ∈ zdn G r↔p<G.prods.length/\zbS G p=r:=by
 rw[ownNk_mem];constructor
 ·rintro⟨h1,h2⟩;exact⟨h1,by unfold zbS;rw[h2];simp⟩
 ·rintro⟨h1,h2⟩;have:=(hG.pl _ (zan h1)).1;unfold zbS at h2;exact⟨h1,by omega⟩
theorem zle(G:Gm)(r:Nat):(zdn G r).Nodup:=List.nodup_range.filter _
abbrev PrI(G:Gm)(P:Nat->Bool):={p:Nat // p<G.prods.length/\P (zbS G p)=true}
def zrw(G:Gm)(P:Nat->Bool)(A:Nat->Nat)(x:PrI G P):Array Value:=#[.agg #[.int .i64 (x.1:Int),.int .i64 0],.pointer (some ⟨A (zbS G x.1),0,none⟩)]
def AhS(G:Gm)(P:Nat->Bool)(xs:List (PrI G P)):Prop:=(∀ p,p<G.prods.length->P (zbS G p)=true->p ∈ xs.map Subtype.val)/\(xs.map Subtype.val).Nodup
def KpA(C:Nat->Prop)(W W':World):Prop:=KeepsWalks W W'/\zdE C W W'
theorem zeN{C:Nat->Prop}{W W':World}{row:Option Nat}(h:W.grownBy W' row)(hr:∀ r,row=some r->¬ C r):zdE C W W' :=
 ⟨h.size,λp v hp hv=>by
  rw[<- hv]
  exact zsL (h.block p.block (zsQ W p hv) (λe=>hr _ e.symm hp))⟩
theorem zpn{v:Value}{y:DataW Unit × List MemPlace}(h:zfy v=some y):∃ c,v=zkQ c:=by
 unfold zfy at h
 split at h
 ·exact⟨none,rfl⟩
 ·exact⟨some _,rfl⟩
 ·cases h
theorem zsh{a b:Option Nat}(h:zkQ a=zkQ b):a=b:=by
 cases a <;> cases b <;> simp_all [zkQ]
theorem zj2{n:Nat}{l:List Nat}(h:l.Nodup)(hl:∀ p,p ∈ l->p<n):l.length<=n:=by
 have h1:(l.map λ(p:Nat)=>(p:Int)).Nodup:=by
  refine List.pairwise_map.2 (List.Pairwise.imp (fun {a b} (hab:a≠b)=>?_) h);intro e;exact hab (Int.ofNat.inj e)
 have:=Wk.nodup_bound n _ h1 (λx hx=>by
  obtain⟨p,hp,rfl⟩:=List.mem_map.1 hx;have:=hl p hp
  omega)
 simpa using this
theorem zlW(F:Fence)(n:Nat)(h120:F.fn 120)(hro:F.round=none)(hn:1<=n)(G:Gm)(hG:GOk G)(P:Nat->Bool)(A:Nat->Nat)(hP:∀ q,P q=true->q<G.nr)(sb cb mb nm:Nat)(oa:Option Addr)(oc:Nat)(R0 C:Nat->Prop)(w:World)
 (s0:w.cell? ⟨sb,0,none⟩=some (.pointer (some ⟨cb,0,none⟩))) (s1:w.cell? ⟨sb,1,none⟩=some (.map (some mb))) (c3:w.cell? ⟨cb,3,none⟩=some (.slice oa G.nr oc)) (hOw:OwAt R0 w oa G) (hmp:PtM w mb nm (λq=>if P q then some (A q) else none))
 (hCs:C sb) (hCc:C cb) (hCR:∀ k,R0 k->C k) (hCl:∀ k,C k->k<w.heap.size) :
 zne F n Tryz.prog 120 #[.pointer (some ⟨sb,0,none⟩)] (zrw G P A) (KpA C) (AhS G P) G.prods.length w:=λl0 J W hW hJ hY h0=>by
 have hmW:=zdJ hmp (hW.block mb (zc7 hmp));obtain⟨D,hown,hat,hkeys⟩:=hmW;have s0:=(hW.cell (p:=⟨sb,0,none⟩) (hCl _ hCs)).trans s0;have s1:=(hW.cell (p:=⟨sb,1,none⟩) (hCl _ hCs)).trans s1;have c3:=(hW.cell (p:=⟨cb,3,none⟩) (hCl _ hCc)).trans c3;have hCW:¬ C W.heap.size:=λh=>by have:=hCl _ h;have:=hW.size;omega
 have hOwW:OwAt R0 W oa G:=λq hq=>by
  obtain⟨b,off,a,c,e,hb,hc,hr⟩:=hOw q hq;refine⟨b,off,a,c,e,hb,(hW.cell (p:=⟨b,off+q,none⟩) (hCl _ (hCR _ hb))).trans hc,?_⟩;rcases hr with hr | ⟨b',off',r1,r2,r3⟩
  ·exact .inl hr
  ·exact .inr ⟨b',off',r1,r2,λj hj=>(hW.cell (p:=⟨b',off'+j,none⟩) (hCl _ (hCR _ r2))).trans (r3 j hj)⟩
 have HOw:=zaa hOwW;have Hs0:=zaa s0;have Hc3:=zaa c3;have Hat:=zaa hat;have Hkeys:=zaa hkeys;clear hOw hmp hOwW hat hkeys;show CallsIn F n Tryz.prog 120 #[.pointer (some ⟨sb,0,none⟩),.func (.yield l0) #[] #[]] W _;refine callsIn_of_wp Tryz.func120 rfl h120 ?_ hro;simp only[Tryz.ntmps120, List.size_toArray,List.length_cons,List.length_nil,Nat.reduceAdd,Nat.reduceSub,Array.replicate_succ,Array.replicate_zero,List.push_toArray,List.append_toArray,List.nil_append,List.cons_append]
 gi_wp2_with (first
  | (gi_at_range;refine wpListIn_range_own _ rfl _ 174 rfl 3 _ zke Tryz.underlying174 _ mb nm _ rfl hown ?_;intro w0 hrg0 hg0 hs0)
  | gi_in)
 have hAl0:zdE C W w0:=zeN hg0 (λr e=>by cases e);have hJ0:J [] w0:=hJ [] W w0 none h0 hg0 (λr e=>by cases e)
 gi_loopw [] (λwr=>∃ (left:Lit->Bool) (cnt:Nat) (ps:List (PrI G P)),wr.ranges Tryz.prog 3 zfy mb W.heap.size nm D left cnt/\(∀ kl,left kl=true->Maps.has D kl=true)/\(∀ x,x ∈ ps->left (ki (zbS G x.1))=false)/\(∀ r:Nat,Maps.has D (ki r)=true->left (ki r)=false->∀ p,p ∈ zdn G r->p ∈ ps.map Subtype.val)/\(ps.map Subtype.val).Nodup/\J ps wr/\zdE C W wr)
  (λwr=>wr.rangeLeft mb W.heap.size)
 case atStart=>exact⟨_,_,[],hrg0,λ_ h=>h,λx hx=>(by simp at hx),λr h1 h2=>(by rw[h1] at h2;cases h2),(by simp),hJ0,hAl0⟩
 case round =>
  obtain⟨left,cnt,ps,hrg,hsub,hin,hdn,hnd,hJs,hkc⟩:=hrel;clear hrg0 hg0 hs0 hAl0 hJ0 h0 hown;have Hsub:=zaa hsub;have Hin:=zaa hin;have Hdn:=zaa hdn;have Hnd:=zaa hnd;have Hkc:=zaa hkc;clear hsub hin hdn hnd hkc
  gi_wp2_with (first
   | (gi_at_next;refine wpListIn_next_ranges _ rfl _ rfl 3 zke zfy (Value.int .i64) zkQ (λkey kl hk=>by obtain⟨x,hx,_⟩:=Maps.keyOf_int_inv Tryz.underlying3 hk;exact⟨x,hx⟩) (λv y hv=>zpn hv) mb W.heap.size nm _ _ _ rfl hrg ?_ ?_)
   | gi_in)
  ·intro hc0 hl0
   gi_wp2
   go_end0
   refine⟨⟨_,rfl⟩,ps,⟨λp hp hPp=>?_,uh Hnd⟩,hJs⟩;have hh:Maps.has D (ki (zbS G p))=true:=by
    cases h9:Maps.has D (ki (zbS G p)) with
    | true=>rfl
    | false =>
      have e1:=uh Hat (zbS G p);rw[atKey_of_not_has h9,if_pos hPp] at e1;simp[zuy] at e1
   exact uh Hdn _ hh (hl0 _) p ((zed hG).2 ⟨hp,rfl⟩)
  ·intro x c kl yd yp w2 cnt2 hkey hlk hv hatk hrg2 hlt hg2 hs2 hen;obtain⟨x',ex,rfl,-⟩:=Maps.keyOf_int_inv Tryz.underlying3 hkey;obtain rfl:x=x':=by simpa using ex
   obtain⟨q,eq,hA⟩:=uh Hkeys _ (uh Hsub _ hlk);obtain rfl:x=(q:Int):=by simpa using eq
   have hPq:P q=true:=by
    cases h9:P q with
    | true=>rfl
    | false=>rw[h9] at hA;simp at hA
   obtain rfl:c=some (A q):=by
    have e1:=uh Hat q;have e2:=hatk (.lit (.int .i64 (-1)));rw[show (Lit.int .i64 (q:Int))=ki q from rfl,e1,if_pos hPq] at e2;have e3:zfy (zkQ c)=some (.lit (.int .i64 (zuy (some (A q)))),yp):=by rw[hv,<- e2]
    exact zsh (zuw e3)
   have hqn:=hP q hPq;have hJ2:J ps w2:=hJ ps wr w2 (some W.heap.size) hJs hg2 (λr e=>by cases e;exact⟨zsG _,hrg.iter_walk⟩);have hk2:zdE C W w2:=zfP (uh Hkc) (zeN hg2 (λr e=>by cases e;exact hCW));obtain⟨ob,ooff,owa,owc,rfl,hR0o,hoc,hor⟩:=uh HOw q hqn;have t0:=hk2.2 ⟨sb,0,none⟩ _ hCs (uh Hs0);have t3:=hk2.2 ⟨cb,3,none⟩ _ hCc (uh Hc3);have t9:=hk2.2 ⟨ob,ooff+q,none⟩ _ (hCR _ hR0o) hoc;have hqI:(q:Int)<(G.nr:Int):=by omega
   have hstk:(λz=>left z && !z.sameKey (ki q)) (ki q)=false:=by simp[Lit.sameKey]
   have hsub2:∀ kl,(left kl && !kl.sameKey (ki q))=true->Maps.has D kl=true:=λkl h=>uh Hsub kl ((Bool.and_eq_true _ _▸h).1);have hlq:∀ r:Nat,r≠q->(left (ki r) && !(ki r).sameKey (ki q))=left (ki r):=λr hr=>by
    have:(ki r).sameKey (ki q)=false:=sameKey_ne (λe=>hr (by simp at e;omega));rw[this];simp
   have Hrg2:=zaa hrg2;have HJ2:=zaa hJ2;have Hk2:=zaa hk2;have Hor:=zaa hor;have Hstk:=zaa hstk;have Hsub2:=zaa hsub2;have Hlq:=zaa hlq;have Hlk:=zaa hlk;have Hlt:=zaa hlt;clear hrg2 hJ2 hk2 hor hstk hsub2 hlq hlk hlt hs2 hg2 hatk hv hkey ex eq hA hJs;have hpt:zkQ (some (A q))=Value.pointer (some ⟨A q,0,none⟩):=rfl;rw[hpt] at hen ⊢;clear hpt
   have Hnd2:Hid ((ps.map Subtype.val ++ zdn G q).Nodup):=zaa (List.nodup_append.2 ⟨uh Hnd,zle G q,λa ha b hb e=>by
    obtain⟨x,hx,rfl⟩:=List.mem_map.1 ha;have h1:=uh Hin x hx;have h2:=((zed hG).1 hb).2;rw[e,h2,uh Hlk] at h1
    cases h1⟩)
   have hol:=zpw hG q
   gi_wp2
   gi_loopw [29] (λv wr=>∃ (j:Nat) (qs:List (PrI G P)),v=.int .i64 (j:Int)/\j<=(zfA G q).length/\wr.ranges Tryz.prog 3 zfy mb W.heap.size nm D (λz=>left z && !z.sameKey (ki q)) cnt2/\qs.map Subtype.val=ps.map Subtype.val ++ (zdn G q).take j/\J qs wr/\zdE C W wr) (λv _=>(zfA G q).length - (intOf v).toNat)
   case atStart=>exact⟨0,ps,rfl,zsK _,uh Hrg2,by simp,uh HJ2,uh Hk2⟩
   case round =>
    obtain⟨j,qs,rfl,hj,hrg3,hqs,hJ3,hk3⟩:=hrel;clear HJ2 Hrg2 Hk2 t0 t3 t9 hen;by_cases hjl:j<(zfA G q).length
    ·have hjlI:(j:Int)<((zfA G q).length:Int):=by omega
     have hjN:j<(zdn G q).length:=by rw[<- ze9];exact hjl
     obtain⟨rb,roff,rfl,hRr,hrc⟩:=(uh Hor).resolve_left (λe=>by rw[e] at hjl;simp at hjl);have q0:=hk3.2 ⟨rb,roff+j,none⟩ _ (hCR _ hRr) (hrc j hjl);rw[zjW hjN] at q0;have hpm:=(zed hG).1 (zj8 hjN);have htk:=zgF (zdn G q) j hjN;generalize (zdn G q).getD j 0=p at *;obtain⟨hp1,hp2⟩:=hpm;have hPp:P (zbS G p)=true:=by rw[hp2];exact hPq
     have hqs2:(qs ++ [(⟨p,hp1,hPp⟩:PrI G P)]).map Subtype.val=ps.map Subtype.val ++ (zdn G q).take (j+1):=by rw[List.map_append,hqs,htk];simp
     have hlen:qs.length<G.prods.length:=by
      have h1:((qs ++ [(⟨p,hp1,hPp⟩:PrI G P)]).map Subtype.val).Nodup:=by
       rw[hqs2];exact(uh Hnd2).sublist (List.Sublist.append (List.Sublist.refl _) (List.take_sublist _ _))
      have h2:=zj2 h1 (λp' hp'=>by
       obtain⟨x,-,rfl⟩:=List.mem_map.1 hp'
       exact x.2.1)
      simp at h2;omega
     obtain⟨fn,tmps,assign,body,hy,hR⟩:=hY qs ⟨p,hp1,hPp⟩ wr hJ3 hlen
     dsimp only[zrw] at hy
     rw[hp2] at hy;have Hqs2:=zaa hqs2;have Hrg3:=zaa hrg3;have Hk3:=zaa hk3;have Hjl:Hid (j+1<=(zfA G q).length):=zaa hjl;clear hqs2 hqs hrg3 hk3 hJ3 htk hlen hrc
     gi_wp2
     refine hR.mono ?_;rintro e W3 ⟨rfl,hJ4,hw4,hk4⟩
     gi_wp2
     go_roundw
     case rel=>exact⟨j+1,_,by go_num,uh Hjl,(uh Hrg3).of_walks hw4,uh Hqs2,hJ4,zfP (uh Hk3) hk4⟩
     case measure=>have:=uh Hjl;simp[intOf];omega
    ·obtain rfl:j=(zfA G q).length:=by omega
     have hjlI:¬ (((zfA G q).length:Nat):Int)<((zfA G q).length:Int):=by omega
     rw[ze9,zsN] at hqs;have Hrg3:=zaa hrg3;have Hqs:=zaa hqs;have Hk3:=zaa hk3;have HJ3:=zaa hJ3;clear hrg3 hqs hk3 hJ3
     gi_wp2
     go_roundw
     case rel =>
      have hqs:=uh Hqs;refine⟨_,cnt2,qs,uh Hrg3,uh Hsub2,λx hx=>?_,λr h1 h2 p hp=>?_,by rw[hqs];exact uh Hnd2,uh HJ3,uh Hk3⟩
      ·have hx2:x.1 ∈ qs.map Subtype.val:=List.mem_map_of_mem hx;rw[hqs,List.mem_append] at hx2;by_cases e:zbS G x.1=q
       ·rw[e];exact uh Hstk
       ·show (left (ki (zbS G x.1)) && !(ki (zbS G x.1)).sameKey (ki q))=false;rw[uh Hlq _ e];rcases hx2 with hx2 | hx2
        ·obtain⟨y,hy,e2⟩:=List.mem_map.1 hx2;rw[<- e2];exact uh Hin y hy
        ·exact absurd ((zed hG).1 hx2).2 e
      ·rw[hqs,List.mem_append];by_cases e:r=q
       ·subst e;exact .inr hp
       ·have h3:(left (ki r) && !(ki r).sameKey (ki q))=false:=h2;rw[uh Hlq r e] at h3;exact .inl (uh Hdn r h1 h3 p hp)
     case measure=>rw[(uh Hrg3).left_eq,hrg.left_eq];exact uh Hlt
end Go.Proofs.YtieciibnajeibaaGreatDoor

import Derived.Test.YtieciibnajeibaaGreatDoorWkE5
import Derived.Test.YtieciibnajeibaaGreatDoorTB
import Derived.Test.YtieciibnajeibaaGreatDoorTJ
set_option maxHeartbeats 8000000
set_option maxRecDepth 100000
namespace Go.Proofs.YtieciibnajeibaaGreatDoor
open Go.RowKit
def zcr(w:World)(k:Nat):Prop:=∃ cs t,w.heap[k]? = some (.cells cs t (0,0))/\(t=233\/t=244)
theorem zaq{w:World}{k t:Nat}{cs:Array Value}{f:Nat × Nat}(h:w.heap[k]? = some (.cells cs t f))(h1:t≠233)(h2:t≠244):¬ zcr w k:=fun⟨cs',t',e,h3⟩=>by
 rw[h] at e;simp only[Option.some.injEq,Obj.cells.injEq] at e;obtain⟨-,e2,-⟩:=e;subst e2;exact h3.elim h1 h2
theorem zdb{O:Nat->Prop}{w w':World}(h:Wk.Off O w w'):Fr O w w':=⟨h.size,h.block,h.os,h.tape,h.output⟩
theorem zj1{O:Nat->Prop}{w w':World}(h:Fr O w w'):Wk.Off O w w':=⟨h.2.2.1,h.2.2.2.1,h.2.2.2.2,h.1,h.2.1⟩
structure SetN (w:World) (A:Nat) (O:Nat->Prop) (f:Int->Bool):Prop where
 ok:∃ bl,Wk.SetOk w A O bl (Wk.cnt 1048576 f:Nat)/\∀ m,Wk.hasB bl m=f m
 ty:∀ k,O k->zcr w k
theorem zaO{w:World}{A:Nat}{O:Nat->Prop}{f:Int->Bool}(h:SetN w A O f){k:Nat}(hk:O k):k<w.heap.size:=by obtain⟨bl,h1,-⟩:=h.ok;exact h1.is.lt k hk
theorem zaz{w w':World}{A:Nat}{O O':Nat->Prop}{f:Int->Bool}(h:SetN w A O f)(hf:Fr O' w w')(hd:∀ k,O k->¬ O' k):SetN w' A O f:=by
 obtain⟨bl,h1,h2⟩:=h.ok;refine⟨⟨bl,Wk.ok_off h1 (zj1 hf) hd,h2⟩,λk hk=>?_⟩;obtain⟨cs,t,h3,h4⟩:=h.ty k hk;exact⟨cs,t,(hf.2.1 k (zaO h hk) (hd k hk)).trans h3,h4⟩
theorem zbw{w w':World}{A:Nat}{O:Nat->Prop}{f:Int->Bool}(h:SetN w A O f)(hb:Below w.heap.size w w'):SetN w' A O f:=zaz (O':=λ_=>False) h (zae hb) (λ_ _ h=>h)
theorem zct{w:World}{A:Nat}{O:Nat->Prop}{bl:List Wk.Blk}{sz:Int}{f:Int->Bool}(h:Wk.SetOk w A O bl sz)(hf:∀ m,Wk.hasB bl m=f m)(hs:sz=(Wk.cnt 1048576 f:Nat)):∃ O',SetN w A O' f/\∀ k,O' k->O k:=by
 subst hs;obtain⟨⟨h1,h2,h3,h4,sv,hB,hr,hs⟩,hfit,hu⟩:=h;refine⟨λk=>k=A\/sv.ownBlock=some k,⟨⟨bl,⟨⟨.inl rfl,λk hk=>?_,h3,h4,sv,hB,hr,λk hk=>.inr hk⟩,hfit,hu⟩,hf⟩,λk hk=>?_⟩,λk hk=>?_⟩
 ·rcases hk with rfl | hk
  ·exact Wk.lt_of_some hB
  ·exact(hr.lt k hk).2
 ·rcases hk with rfl | hk
  ·exact⟨_,_,hB,.inl rfl⟩
  ·rcases hr.2 with ⟨rfl,_⟩ | ⟨g,cap,cur,rfl,_,hg,_⟩
   ·simp[Value.ownBlock] at hk
   ·simp only[Value.ownBlock,Option.some.injEq] at hk;subst hk;exact⟨_,_,hg,.inr rfl⟩
 ·rcases hk with rfl | hk
  ·exact h1
  ·exact hs k hk
theorem zmK(A A':Nat)(O O':Nat->Prop)(f g:Int->Bool)(w:World)(h:SetN w A O f)(h':SetN w A' O' g)(hd:∀ k,O' k->¬ O k) :
 Calls Tryz.prog 117 #[.pointer (some ⟨A,0,none⟩),.pointer (some ⟨A',0,none⟩)] w λe w'=>(∃ c,e=.returned (.int .i64 c))/\Fr O w w'/\∃ O2,SetN w' A O2 (orF f g)/\∀ k,O2 k->O k\/w.heap.size<=k:=by
 obtain⟨bl,h1,h2⟩:=h.ok;obtain⟨cl,h3,h4⟩:=h'.ok;have hc:=Wk.cnt_le 1048576 f;have hj:∀ m,(Wk.joinS (Wk.hasB bl) cl).1 m=orF f g m:=λm=>by
  rw[Wk.join_has _ h3.is.up h3.fit,h2,h4];rfl
 have hn:((Wk.cnt 1048576 f:Nat):Int)+(Wk.joinS (Wk.hasB bl) cl).2=(Wk.cnt 1048576 (orF f g):Nat):=by
  rw[Wk.join_cnt _ h3.fit,Wk.cnt_same 1048576 _ _ hj,Wk.cnt_same 1048576 _ _ h2];omega
 refine(Wk.join_any A A' O O' bl cl _ _ (by omega) w h1 h3 hd).mono ?_;rintro e w' ⟨rfl,ho,bl',O2,hok,hO2,hh⟩;obtain⟨O3,h5,h6⟩:=zct hok (λm=>(hh m).trans (hj m)) hn;exact⟨⟨_,rfl⟩,zdb ho,O3,h5,λk hk=>hO2 k (h6 k hk)⟩
theorem zlx(A:Nat)(O:Nat->Prop)(f:Int->Bool)(w:World)(h:SetN w A O f) :
 Calls Tryz.prog 117 #[.pointer (some ⟨A,0,none⟩),.pointer (some ⟨A,0,none⟩)] w λe w'=>(∃ c,e=.returned (.int .i64 c))/\Below w.heap.size w w':=by
 obtain⟨bl,h1,h2⟩:=h.ok;have hc:=Wk.cnt_le 1048576 f;refine(Wk.join_self A O bl _ (by omega) w h1).mono ?_;rintro e w' ⟨rfl,hb⟩;exact⟨⟨_,rfl⟩,hb⟩
def zkS(f:Int->Bool)(x:Int):Int->Bool:=λm=>if m=x then true else f m
theorem add_n(A:Nat)(O:Nat->Prop)(f:Int->Bool)(x:Int)(hx:0<=x/\x<1048576)(a:Addr)(c:Nat)(w:World)(h:SetN w A O f)(ha:a.spot=none)(hl:a.block<w.heap.size)(hcx:w.cell? a=some (.int .i64 x))(hap:¬ O a.block) :
 Calls Tryz.prog 150 #[.pointer (some ⟨A,0,none⟩),.slice (some a) 1 c] w λe w'=>(∃ c,e=.returned (.tuple #[.int .i64 c,.int .i64 0]))/\Fr O w w'/\∃ O2,SetN w' A O2 (zkS f x)/\∀ k,O2 k->O k\/w.heap.size<=k:=by
 obtain⟨bl,h1,h2⟩:=h.ok;obtain⟨ab,ao,asp⟩:=a;simp only at ha hl hap;subst ha;have hc:=Wk.cnt_le 1048576 f;have hs:(Wk.addS (Wk.hasB bl) [x]).1=zkS f x:=by
  funext m;show (if m=x then true else Wk.hasB bl m)=_;rw[h2];rfl
 have hn:((Wk.cnt 1048576 f:Nat):Int)+(Wk.addS (Wk.hasB bl) [x]).2=(Wk.cnt 1048576 (zkS f x):Nat):=by
  have:=Wk.addS_cnt 1048576 (Wk.hasB bl) [x] (λk hk=>by
   have:k=0:=by simp at hk;omega
   subst this;show 0<=x/\x<((1048576:Nat):Int)
   omega) 1 (by simp)
  rw[show ([x]:List Int).take 1=[x] from rfl,hs,Wk.cnt_same 1048576 _ _ h2] at this;omega
 have hrow:Wk.NRow w (some ⟨ab,ao,none⟩) [x]:=.inr ⟨ab,ao,rfl,hl,λj hj=>by
  have:j=0:=by simp at hj;omega
  subst this
  exact hcx⟩
 refine(Wk.add_any A O bl _ (some ⟨ab,ao,none⟩) c [x] (by simp[Wk.numsB];omega) (by simp;omega) w h1 hrow (λy hy=>by cases hy;exact hap)).mono ?_;rintro e w' ⟨rfl,ho,bl',O2,hok,hO2,hh⟩;obtain⟨O3,h5,h6⟩:=zct hok (f:=zkS f x) (λm=>(hh m).trans (by rw[hs])) hn;exact⟨⟨_,rfl⟩,zdb ho,O3,h5,λk hk=>hO2 k (h6 k hk)⟩
theorem zda(w:World):Calls Tryz.prog 193 #[] w λe w'=>e=.returned (.pointer (some ⟨w.heap.size,0,none⟩))/\Below w.heap.size w w'/\w.heap.size<w'.heap.size/\SetN w' w.heap.size (· = w.heap.size) (λ_=>false):=by
 have HN:=zaa (Wk.new_zero w)
 have Hs:Hid (SetN (w.alloc (.cells #[.slice none 0 0,.int .i64 0] 233)) w.heap.size (· = w.heap.size) (λ_=>false)):=zaa (by
  have hb:(w.alloc (.cells #[.slice none 0 0,.int .i64 0] 233)).heap[w.heap.size]? = some (.cells #[.slice none 0 0,.int .i64 0] 233 (0,0)):=zsH _ _;refine⟨⟨[],?_,Wk.has_nil⟩,λk hk=>⟨_,_,hk▸hb,.inl rfl⟩⟩;rw[Wk.cnt_zero _ _ (λ_=>rfl)]
  exact Wk.set_zero hb)
 go_enter Tryz.func193,Tryz.ntmps193;go_wp2_with fail;refine(uh HN).mono ?_;rintro e w2 ⟨rfl,rfl⟩;go_wp2;go_ret;exact⟨rfl,(zsY _ _).alloc (zsG _) _,by simp,uh Hs⟩
def HOf(ts:List Wk.Tk)(H:Nat->Option Int):Prop:=∀ (r:Nat) (v:Int),H r=some v↔∃ t,t ∈ ts/\t.n=(r:Int)/\t.wt=v
def zor(w:World)(B:Nat)(O:Nat->Prop)(H:Nat->Option Int):Prop:=∃ ts,Wk.LstIs w B O ts/\Wk.HeapN ts ts.length/\HOf ts H
theorem ztg{w w':World}{B:Nat}{O:Nat->Prop}{H:Nat->Option Int}(h:zor w B O H)(hb:Below w.heap.size w w'):zor w' B O H:=by
 obtain⟨ts,h1,h2,h3⟩:=h;exact⟨ts,Wk.lst_below h1 hb,h2,h3⟩
theorem zoS{ts:List Wk.Tk}(hn:(ts.map Wk.Tk.n).Nodup){a b:Wk.Tk}(ha:a ∈ ts)(hb:b ∈ ts)(he:a.n=b.n):a=b:=by
 obtain⟨i,hi,rfl⟩:=List.getElem_of_mem ha;obtain⟨j,hj,rfl⟩:=List.getElem_of_mem hb;have hi':i<(ts.map Wk.Tk.n).length:=by simpa using hi
 have hj':j<(ts.map Wk.Tk.n).length:=by simpa using hj
 have pw:=List.pairwise_iff_getElem.1 hn;rcases Nat.lt_trichotomy i j with h | h | h
 ·exact absurd (by rw[List.getElem_map,List.getElem_map,he]) (pw i j hi' hj' h)
 ·subst h;rfl
 ·exact absurd (by rw[List.getElem_map,List.getElem_map,he]) (pw j i hj' hi' h)
theorem zjB{w:World}{B:Nat}{O:Nat->Prop}{ts:List Wk.Tk}(h:Wk.LstIs w B O ts):ts.length<=1048576:=by
 have:=Wk.nodup_bound 1048576 (ts.map Wk.Tk.n) h.apart (λx hx=>by
  obtain⟨t,ht,rfl⟩:=List.mem_map.1 hx;have:=h.nums t ht
  omega)
 simpa using this
theorem zrY{w:World}{B:Nat}{O:Nat->Prop}{ts:List Wk.Tk}(h:Wk.LstIs w B O ts){n:Int}(hn:0<=n/\n<1048576)(hnew:n ∉ ts.map Wk.Tk.n):ts.length<1048576:=by
 have:=Wk.nodup_bound 1048576 (n::ts.map Wk.Tk.n) (List.nodup_cons.2 ⟨hnew,h.apart⟩) (λx hx=>by
  rcases List.mem_cons.1 hx with rfl | hx
  ·omega
  ·obtain⟨t,ht,rfl⟩:=List.mem_map.1 hx;have:=h.nums t ht
   omega)
 simp at this;omega
theorem push_h(B:Nat)(O:Nat->Prop)(H:Nat->Option Int)(r:Nat)(wt:Int)(hr:r<1048576)(hw:0<=wt/\wt<=1099511627776)(w:World)(h:zor w B O H) :
 Calls Tryz.prog 118 #[.pointer (some ⟨B,0,none⟩),.int .i64 (r:Nat),.int .i64 wt] w λe w'=>(∃ b,e=.returned (.tuple #[.bool b,.int .i64 0]))/\Fr O w w'/\∃ O',zor w' B O' (zjR H r wt)/\∀ k,O' k->O k\/w.heap.size<=k:=by
 obtain⟨ts,hL,hh,hH⟩:=h;by_cases hm:(r:Int) ∈ ts.map Wk.Tk.n
 · obtain ⟨t, ht, he⟩ := List.mem_map.1 hm;obtain⟨i,hi,hti⟩:=List.getElem_of_mem ht;have hg:ts.getD i Wk.tk0=t:=by rw[Wk.tkD hi,hti]
   have key:=Wk.push_old B O ts i hi (zjB hL) hh wt (by omega) w hL;rw[hg,he] at key;have hHr:H r=some t.wt:=(hH r t.wt).2 ⟨t,ht,he,rfl⟩;refine key.mono λe w' ⟨h1,h2,h3⟩=>⟨⟨_,h1⟩,zdb h2,O,⟨_,h3,?_,?_⟩,λk hk=>.inl hk⟩
   · split
     · rename_i hlt;rw[Wk.upL_length,Wk.lighter_length];refine Wk.up_heap i (Wk.lighter ts i wt) ts.length (by rw[Wk.lighter_length];exact zsG _) hi ?_;exact(Wk.fix_heap hh i hi wt (by rw[hg];omega)).1
     · exact hh
   · have e1:zjR H r wt=upH H r (some (min wt t.wt)):=by unfold zjR;rw[hHr]
     rw[e1]
     split
     · rename_i hlt;rw[show min wt t.wt=wt by omega];have hp:=Wk.upL_perm (Wk.lighter ts i wt) i (by rw[Wk.lighter_length];exact hi);intro s v;by_cases es:s=r
       · subst es;rw[zgh];constructor
         · intro hv
           cases hv
           refine⟨⟨t.at_,t.n,wt⟩,hp.mem_iff.2 ?_,he,rfl⟩;unfold Wk.lighter;rw[hg];exact List.mem_set hi _
         · rintro⟨t',ht',hn',hv⟩;have ht':=hp.mem_iff.1 ht';unfold Wk.lighter at ht';rw[hg] at ht';obtain⟨j,hj,hje⟩:=List.getElem_of_mem ht';rw[List.getElem_set] at hje
           split at hje
           · subst hje;exact congrArg some hv
           · rename_i hij;exfalso;have hj':j<ts.length:=by simpa using hj
             have:=zoS hL.apart (List.getElem_mem hj') ht (by rw[hje,hn',he]);have pw:=hL.apart;apply hij;have h1:(ts.map Wk.Tk.n)[i]'(by simpa using hi)=(ts.map Wk.Tk.n)[j]'(by simpa using hj'):=by rw[List.getElem_map,List.getElem_map,hti,this]
             exact(List.getElem_inj pw).1 h1
       · rw [zl2 es, hH s v];constructor
         · rintro⟨t',ht',hn',hv⟩;refine⟨t',hp.mem_iff.2 ?_,hn',hv⟩;obtain⟨j,hj,hje⟩:=List.getElem_of_mem ht';unfold Wk.lighter;rw[zsT];refine⟨j,by simpa using hj,?_⟩;rw[List.getElem_set,if_neg]
           · exact hje
           · intro hij;subst hij;have:t=t':=by rw[<- hti,<- hje]
             subst this;omega
         · rintro⟨t',ht',hn',hv⟩;have ht':=hp.mem_iff.1 ht';unfold Wk.lighter at ht';rw[hg] at ht';rcases List.mem_or_eq_of_mem_set ht' with h4 | h4
           · exact⟨t',h4,hn',hv⟩
           · exfalso;rw[h4] at hn';have hn':t.n=(s:Int):=hn';omega
     · rename_i hlt;rw[show min wt t.wt=t.wt by omega];intro s v;by_cases es:s=r
       · subst es;rw[zgh,<- hHr];exact hH s v
       · rw[zl2 es];exact hH s v
 · have hHr:H r=none:=by
     cases hv:H r with
     | none=>rfl
     | some v=>obtain⟨t,ht,hn,-⟩:=(hH r v).1 hv;exact absurd (List.mem_map.2 ⟨t,ht,hn⟩) hm
   have e1:zjR H r wt=upH H r (some wt):=by unfold zjR;rw[hHr]
   refine(Wk.push_new B O ts r wt ⟨by omega,by omega,by omega,by omega⟩ hm (zrY hL (by omega) hm) w hL).mono λe w' ⟨h1,h2,T,h3⟩=>⟨⟨_,h1⟩,zdb h2,_,⟨_,h3,?_,?_⟩,λk hk=>hk.imp id (λh=>h.1)⟩
   · rw[Wk.upL_length,zsI];exact(Wk.push_heap hh ⟨T,r,wt⟩).1
   · have hp:=(Wk.push_heap hh ⟨T,(r:Int),wt⟩).2;rw[e1];intro s v;by_cases es:s=r
     · subst es;rw[zgh];constructor
       · intro hv;cases hv;exact⟨_,hp.mem_iff.2 (List.mem_append_right _ (List.mem_singleton.2 rfl)),rfl,rfl⟩
       · rintro⟨t',ht',hn',hv⟩;rcases List.mem_append.1 (hp.mem_iff.1 ht') with h4 | h4
         · exact absurd (List.mem_map.2 ⟨t',h4,hn'⟩) hm
         · rw[List.mem_singleton.1 h4] at hv;exact congrArg some hv
     · rw [zl2 es, hH s v];constructor
       · rintro⟨t',ht',hn',hv⟩;exact⟨t',hp.mem_iff.2 (List.mem_append_left _ ht'),hn',hv⟩
       · rintro⟨t',ht',hn',hv⟩;rcases List.mem_append.1 (hp.mem_iff.1 ht') with h4 | h4
         · exact⟨t',h4,hn',hv⟩
         · rw[List.mem_singleton.1 h4] at hn';have hn':(r:Int)=s:=hn';omega
def zxw(B:Nat)(O:Nat->Prop)(H:Nat->Option Int)(w:World)(e:Ending)(w':World):Prop:=((∀ r,H r=none)/\e=.returned (.tuple #[.int .i64 0,.int .i64 0,.bool false])/\w'=w)\/∃ (r:Nat) (v:Int),H r=some v/\(∀ s u,H s=some u->v<=u)/\e=.returned (.tuple #[.int .i64 (r:Nat),.int .i64 v,.bool true])/\Fr O w w'/\zor w' B O (upH H r none)
theorem pop_h(B:Nat)(O:Nat->Prop)(H:Nat->Option Int)(w:World)(h:zor w B O H):Calls Tryz.prog 119 #[.pointer (some ⟨B,0,none⟩)] w λe w'=>zxw B O H w e w':=by
 obtain⟨ts,hL,hh,hH⟩:=h;by_cases hz:ts.length=0
 ·have:=zsX hz;subst this;refine(Wk.pop_none B O w hL).mono λe w' ⟨h1,h2⟩=>.inl ⟨λr=>?_,h1,h2⟩
  cases hv:H r with
  | none=>rfl
  | some v=>obtain⟨t,ht,-⟩:=(hH r v).1 hv;cases ht
 ·refine(Wk.pop_some B O ts (by omega) (zjB hL) w hL).mono λe w' ⟨rest,t,h1,h2,h3,h4⟩=>.inr ?_;obtain⟨p1,p2,p3⟩:=Wk.pop_heap hh (by omega) h1;have htm:t ∈ ts:=p2.mem_iff.1 (List.mem_append_right _ (List.mem_singleton.2 rfl));have htn:=hL.nums t htm;obtain⟨r,hr⟩:=Int.eq_ofNat_of_zero_le htn.1;refine⟨r,t.wt,(hH r t.wt).2 ⟨t,htm,hr,rfl⟩,λs u hu=>?_,by rw[h2,hr],zdb h3,rest,h4,p1,?_⟩
  ·obtain⟨t',ht',-,rfl⟩:=(hH s u).1 hu;have:=p3 t' ht';unfold Wk.leT Wk.lessT at this;simp at this;omega
  ·have hnd:((rest ++ [t]).map Wk.Tk.n).Nodup:=(p2.map Wk.Tk.n).nodup_iff.2 hL.apart;intro s v;by_cases es:s=r
   ·subst es;rw[zgh];constructor
    ·intro hv;cases hv
    ·rintro⟨t',ht',hn',-⟩;exfalso;have:=zoS hnd (List.mem_append_left _ ht') (List.mem_append_right rest (List.mem_singleton.2 rfl)) (by rw[hn',hr]);subst this;rw[List.map_append,List.nodup_append] at hnd;exact hnd.2.2 _ (List.mem_map.2 ⟨_,ht',rfl⟩) _ (by simp) rfl
   ·rw[zl2 es,hH s v];constructor
    ·rintro⟨t',ht',hn',hv⟩;rcases List.mem_append.1 (p2.mem_iff.2 ht') with h5 | h5
     ·exact⟨t',h5,hn',hv⟩
     ·exfalso;rw[List.mem_singleton.1 h5] at hn';omega
    ·rintro⟨t',ht',hn',hv⟩;exact⟨t',p2.mem_iff.1 (List.mem_append_left _ ht'),hn',hv⟩
structure SetsV (B:Nat) (w:World) (tb n:Nat) (A:Nat->Nat) (OO:Nat->Nat->Prop) (rep:Nat->Nat) (C:Nat->Int->Bool):Prop where
 row:∃ cs,w.heap[tb]? = some (.cells cs 110 (0,0))/\∀ r:Nat,r<n->cs[r]? = some (.pointer (some ⟨A (rep r),0,none⟩))
 tbB:B<=tb
 rp:∀ r,r<n->rep r<n
 set:∀ r,r<n->SetN w (A r) (OO r) (C r)
 bl:∀ r,r<n->∀ k,OO r k->B<=k
 ap:∀ r s,r<n->s<n->r≠s->∀ k,OO r k->¬ OO s k
def zxs(B:Nat)(w:World)(k:Nat):Prop:=B<=k/\zcr w k
theorem zg5{w w':World}{k:Nat}(h:w'.heap[k]? = w.heap[k]?):zcr w' k↔zcr w k:=by unfold zcr;rw[h]
section
variable {B:Nat} {w w':World} {tb n:Nat} {A:Nat->Nat} {OO:Nat->Nat->Prop} {rep:Nat->Nat} {C:Nat->Int->Bool}
theorem zbO(h:SetsV B w tb n A OO rep C):tb<w.heap.size/\¬ zcr w tb:=by
 obtain⟨cs,h1,-⟩:=h.row;exact⟨(zsO.1 h1).1,zaq h1 (by decide) (by decide)⟩
theorem zbP(h:SetsV B w tb n A OO rep C){r:Nat}(hr:r<n):w.cell? ⟨tb,r,none⟩=some (.pointer (some ⟨A (rep r),0,none⟩))/\w.frozen? ⟨tb,r,none⟩=false:=by
 obtain⟨cs,h1,h2⟩:=h.row;refine⟨?_,?_⟩
 ·unfold World.cell?;rw[h1];exact h2 r hr
 ·unfold World.frozen?;rw[h1];simp
theorem zk6{O:Nat->Prop}(h:SetsV B w tb n A OO rep C)(hf:Fr O w w')(hn:∀ k,k<w.heap.size->O k->k≠tb/\¬ zxs B w k):SetsV B w' tb n A OO rep C:=by
 obtain⟨cs,h1,h2⟩:=h.row;refine⟨⟨cs,(hf.2.1 tb (zbO h).1 (λho=>(hn tb (zbO h).1 ho).1 rfl)).trans h1,h2⟩,h.tbB,h.rp,λr hr=>zaz (h.set r hr) hf (λk hk ho=>(hn k (zaO (h.set r hr) hk) ho).2 ⟨h.bl r hr k hk,(h.set r hr).ty k hk⟩),h.bl,h.ap⟩
theorem zaZ(h:SetsV B w tb n A OO rep C)(hb:Below w.heap.size w w'):SetsV B w' tb n A OO rep C:=zk6 (O:=λ_=>False) h (zae hb) (λ_ _ h=>h.elim)
theorem zjL(h:SetsV B w tb n A OO rep C)(hB:B<=w.heap.size){u v:Nat}(hu:u<n)(hv:v<n) :
 Calls Tryz.prog 117 #[.pointer (some ⟨A u,0,none⟩),.pointer (some ⟨A v,0,none⟩)] w λe w'=>(∃ c,e=.returned (.int .i64 c))/\(∃ OO',SetsV B w' tb n A OO' rep (upC C u (orF (C u) (C v))))/\Fr (zxs B w) w w':=by
 by_cases huv:u=v
 ·subst huv;refine(zlx (A u) (OO u) (C u) w (h.set u hu)).mono ?_;rintro e w' ⟨he,hb⟩;exact⟨he,⟨OO,by rw[zsw,zur];exact zaZ h hb⟩,zae hb⟩
 ·refine(zmK (A u) (A v) (OO u) (OO v) (C u) (C v) w (h.set u hu) (h.set v hv) (λk hk=>h.ap v u hv hu (λe=>huv e.symm) k hk)).mono ?_;rintro e w' ⟨he,hf,O2,h2,hO2⟩;refine⟨he,⟨λr=>if r=u then O2 else OO r,?_⟩,zaj hf (λk _ hk=>⟨h.bl u hu k hk,(h.set u hu).ty k hk⟩)⟩;obtain⟨cs,h3,h4⟩:=h.row;refine⟨⟨cs,(hf.2.1 tb (zbO h).1 (λho=>(zbO h).2 ((h.set u hu).ty tb ho))).trans h3,h4⟩,h.tbB,h.rp,λr hr=>?_,λr hr k=>?_,λr s hr hs hrs k=>?_⟩
  ·by_cases e:r=u
   ·subst e;rw[if_pos rfl,zbc];exact h2
   ·rw[if_neg e,zcm e];exact zaz (h.set r hr) hf (λk hk ho=>h.ap r u hr hu e k hk ho)
  ·by_cases e:r=u
   ·subst e;rw[if_pos rfl];intro hk;exact(hO2 k hk).elim (h.bl r hr k) (λh=>by omega)
   ·rw[if_neg e];exact h.bl r hr k
  ·by_cases e:r=u
   ·rw[if_pos e,if_neg (λe2=>hrs (e.trans e2.symm))];intro hk hks;rcases hO2 k hk with h5 | h5
    ·exact h.ap u s hu hs (λe2=>hrs (e.trans e2)) k h5 hks
    ·have:=zaO (h.set s hs) hks;omega
   ·rw[if_neg e];by_cases e2:s=u
    ·rw[if_pos e2];intro hk hks;rcases hO2 k hks with h5 | h5
     ·exact h.ap r u hr hu e k hk h5
     ·have:=zaO (h.set r hr) hk;omega
    ·rw[if_neg e2];exact h.ap r s hr hs hrs k
theorem zme(h:SetsV B w tb n A OO rep C)(hB:B<=w.heap.size){u:Nat}(hu:u<n)(x:Int)(hx:0<=x/\x<1048576)(a:Addr)(c:Nat)(ha:a.spot=none)(hl:a.block<w.heap.size)(hcx:w.cell? a=some (.int .i64 x))(hap:¬ zcr w a.block) :
 Calls Tryz.prog 150 #[.pointer (some ⟨A u,0,none⟩),.slice (some a) 1 c] w λe w'=>(∃ c,e=.returned (.tuple #[.int .i64 c,.int .i64 0]))/\(∃ OO',SetsV B w' tb n A OO' rep (upC C u (zkS (C u) x)))/\Fr (zxs B w) w w':=by
 refine(add_n (A u) (OO u) (C u) x hx a c w (h.set u hu) ha hl hcx (λho=>hap ((h.set u hu).ty _ ho))).mono ?_;rintro e w' ⟨he,hf,O2,h2,hO2⟩;refine⟨he,⟨λr=>if r=u then O2 else OO r,?_⟩,zaj hf (λk _ hk=>⟨h.bl u hu k hk,(h.set u hu).ty k hk⟩)⟩;obtain⟨cs,h3,h4⟩:=h.row;refine⟨⟨cs,(hf.2.1 tb (zbO h).1 (λho=>(zbO h).2 ((h.set u hu).ty tb ho))).trans h3,h4⟩,h.tbB,h.rp,λr hr=>?_,λr hr k=>?_,λr s hr hs hrs k=>?_⟩
 ·by_cases e:r=u
  ·subst e;rw[if_pos rfl,zbc];exact h2
  ·rw[if_neg e,zcm e];exact zaz (h.set r hr) hf (λk hk ho=>h.ap r u hr hu e k hk ho)
 ·by_cases e:r=u
  ·subst e;rw[if_pos rfl];intro hk;exact(hO2 k hk).elim (h.bl r hr k) (λh=>by omega)
  ·rw[if_neg e];exact h.bl r hr k
 ·by_cases e:r=u
  ·rw[if_pos e,if_neg (λe2=>hrs (e.trans e2.symm))];intro hk hks;rcases hO2 k hk with h5 | h5
   ·exact h.ap u s hu hs (λe2=>hrs (e.trans e2)) k h5 hks
   ·have:=zaO (h.set s hs) hks;omega
  ·rw[if_neg e];by_cases e2:s=u
   ·rw[if_pos e2];intro hk hks;rcases hO2 k hks with h5 | h5
    ·exact h.ap r u hr hu e k hk h5
    ·have:=zaO (h.set r hr) hk;omega
   ·rw[if_neg e2];exact h.ap r s hr hs hrs k
theorem znw(h:SetsV B w tb n A OO rep C){r q:Nat}(hq:q<n):SetsV B (w.setCell ⟨tb,r,none⟩ (.pointer (some ⟨A q,0,none⟩))) tb n A OO (upN rep r q) C:=by
 obtain⟨cs,h1,h2⟩:=h.row;have hf:Fr (· = tb) w (w.setCell ⟨tb,r,none⟩ (.pointer (some ⟨A q,0,none⟩))):=zaD (O:=(· = tb)) (zax _ _) (by rfl) _;refine⟨⟨cs.setIfInBounds r (.pointer (some ⟨A q,0,none⟩)),Wk.block_set h1 _,λs hs=>?_⟩,h.tbB,λs hs=>?_,λs hs=>zaz (h.set s hs) hf (λk hk ho=>(zbO h).2 (ho▸(h.set s hs).ty k hk)),h.bl,h.ap⟩
 ·have h3:=h2 s hs;have hlt:=(zsO.1 h3).1;by_cases e:s=r
  ·subst e;rw[zbu,Array.getElem?_setIfInBounds_self_of_lt hlt]
  ·rw[zbM e,Array.getElem?_setIfInBounds_ne (λe2=>e e2.symm)];exact h3
 ·by_cases e:s=r
  ·subst e;rw[zbu];exact hq
  ·rw[zbM e];exact h.rp s hs
end
def gF(L:Nat->Bool):Int->Bool:=λm=>decide (0<=m) && L m.toNat
theorem zqt(L:Nat->Bool)(k:Nat):gF L (k:Int)=L k:=by unfold gF;simp
theorem zck{f:Nat->Bool}{n:Nat}(h:∀ k,f k=true->k<n):∀ N,n<=N->(List.range N).filter f=(List.range n).filter f
 | 0, hN => by obtain rfl : n = 0 := by omega
               rfl
 | N+1,hN=>by
   by_cases e:n=N+1
   · rw[e]
   · have hf:f N=false:=by
       cases hf:f N with
       | false=>rfl
       | true=>have:=h N hf;omega
     rw[List.range_succ,List.filter_append,zck h N (by omega),List.filter_cons,hf];simp
theorem cnt_gF(N:Nat)(L:Nat->Bool):Wk.cnt N (gF L)=((List.range N).filter L).length:=by
 unfold Wk.cnt;exact congrArg List.length (List.filter_congr (λk _=>zqt L k))
def ctW(M:Nat->Nat->Bool)(q:Nat):Nat:=Wk.cnt 1048576 (gF (M q))
theorem zuO{M:Nat->Nat->Bool}{nk q:Nat}(hM:∀ k,M q k=true->k<nk)(hn:nk<=1048576):ctW M q=((List.range nk).filter λk=>M q k).length:=by
 unfold ctW;rw[cnt_gF,zck hM _ hn]
theorem zuM{M:Nat->Nat->Bool}{nk q:Nat}(hM:∀ k,M q k=true->k<nk)(hn:nk<=1048576):ctW M q<=nk:=by
 rw[zuO hM hn];have:=List.length_filter_le (λk=>M q k) (List.range nk);simpa using this
theorem znU{M:Nat->Nat->Bool}{r q:Nat}{S:Nat->Bool}(h:q≠r):zce M r S q=M q:=by
 funext k;unfold zce;rw[decide_eq_false h,Bool.false_and,Bool.or_false]
theorem zg3{M:Nat->Nat->Bool}{r:Nat}{S:Nat->Bool}(h:∀ k,S k=true->M r k=true):zce M r S=M:=by
 funext q k;rw[Bool.eq_iff_iff,layM_iff];exact⟨λhk=>hk.elim id (fun⟨e,hs⟩=>e▸h k hs),.inl⟩
theorem ztQ{M:Nat->Nat->Bool}{r q:Nat}{S:Nat->Bool}(h:q≠r):ctW (zce M r S) q=ctW M q:=by
 unfold ctW;rw[znU h]
theorem zjc{f g:Int->Bool}(h:∀ m,f m=true->g m=true):∀ N,Wk.cnt N f<=Wk.cnt N g
 | 0=>zsG _
 | N+1=>by
   rw[Wk.cnt_succ,Wk.cnt_succ];have:=zjc h N;have:=h N
   split <;> split <;> simp_all <;> omega
theorem zf6{f g:Int->Bool}(h:∀ m,f m=true->g m=true):∀ N,Wk.cnt N g<=Wk.cnt N f->∀ k:Nat,k<N->g k=true->f k=true
 | 0,_,k,hk,_=>absurd hk (Nat.not_lt_zero _)
 | N+1,hc,k,hk,hg=>by
   rw[Wk.cnt_succ,Wk.cnt_succ] at hc;have hm:=zjc h N;have hN:=h N;by_cases e:k=N
   ·subst e
    cases hf:f (k:Int) with
    | true=>rfl
    | false =>
      rw[hf,hg] at hc;simp only[if_true,Bool.false_eq_true,if_false] at hc;omega
   ·refine zf6 h N ?_ k (by omega) hg
    revert hc
    cases hf:f (N:Int) <;> cases hgN:g (N:Int) <;> simp_all <;> omega
theorem zmX{M M':Nat->Nat->Bool}{q:Nat}(h:∀ k,M q k=true->M' q k=true):ctW M q<=ctW M' q:=by
 refine zjc (λm hm=>?_) _;unfold gF at *;rw[Bool.and_eq_true] at *;exact⟨hm.1,h _ hm.2⟩
theorem ztn{M:Nat->Nat->Bool}{r nk:Nat}{S:Nat->Bool}(hn:nk<=1048576)(hS:∀ k,S k=true->k<nk)(hc:ctW (zce M r S) r<=ctW M r):∀ k,S k=true->M r k=true:=λk hk=>by
 have:=zf6 (f:=gF (M r)) (g:=gF (zce M r S r)) (λm hm=>by
  unfold gF at *;rw[Bool.and_eq_true] at *
  exact⟨hm.1,layM_iff.2 (.inl hm.2)⟩) 1048576 hc k (by have:=hS k hk;omega) (by rw[zqt];exact layM_iff.2 (.inr ⟨rfl,hk⟩))
 rw[zqt] at this;exact this
theorem ztl{M:Nat->Nat->Bool}{r:Nat}{S:Nat->Bool}(hc:ctW M r<ctW (zce M r S) r):∃ k,S k=true/\M r k=false:=by
 apply Classical.byContradiction;intro h
 have:zce M r S=M:=zg3 (λk hk=>by
  cases hm:M r k with
  | true=>rfl
  | false=>exact absurd ⟨k,hk,hm⟩ h)
 rw[this] at hc;omega
theorem ztP{M:Nat->Nat->Bool}{q:Nat}(h:∀ k,M q k=false):ctW M q=0:=by
 unfold ctW;refine Wk.cnt_zero _ _ (λm=>?_);unfold gF;rw[h,Bool.and_false]
def muC(G:Gm)(M:Nat->Nat->Bool)(H:Nat->Bool):Nat:=zrM M G.nk G.nr * (G.nr+1)+zkR (λq=>!H q) G.nr
theorem zjd(f:Nat->Bool):∀ n,zkR f n<=n
 | 0=>zsG _
 | n+1=>by
   have:=zjd f n;unfold zkR
   split <;> omega
theorem zvR{G:Gm}{M M':Nat->Nat->Bool}{H H':Nat->Bool}(h:∀ q k,M q k=true->M' q k=true){r k:Nat}(hr:r<G.nr)(hk:k<G.nk)(h0:M r k=false)(h1:M' r k=true):muC G M' H'<muC G M H:=by
 have:=zqU G.nr (λq _ k _=>h q k) r hr k hk h0 h1;have hm:(zrM M' G.nk G.nr+1) * (G.nr+1)<=zrM M G.nk G.nr * (G.nr+1):=Nat.mul_le_mul_right _ this;rw[Nat.add_mul,Nat.one_mul] at hm;have:=zjd (λq=>!H' q) G.nr;unfold muC;omega
theorem mu_pop{G:Gm}{M:Nat->Nat->Bool}{H H':Nat->Bool}{r:Nat}(hr:r<G.nr)(hH:H r=true)(hH':H' r=false)(h:∀ q,q≠r->H' q=H q):muC G M H'<muC G M H:=by
 have:zkR (λq=>!H' q) G.nr<zkR (λq=>!H q) G.nr:=by
  refine zje G.nr (λq _ hq=>?_) r hr (by rw[hH];rfl) (by rw[hH'];rfl);by_cases e:q=r
  ·rw[e,hH'] ;rfl
  ·rw[h q e];exact hq
 unfold muC;omega
theorem mu_lay{G:Gm}{M:Nat->Nat->Bool}{H H':Nat->Bool}{r:Nat}{S:Nat->Bool}(hr:r<G.nr)(hS:∀ k,S k=true->k<G.nk)(ho:∀ q,q≠r->H' q=H q)(hc:(H' r=true/\∃ k,S k=true/\M r k=false)\/(H' r=H r/\∀ k,S k=true->M r k=true)):muC G (zce M r S) H'<=muC G M H:=by
 rcases hc with ⟨-,k,hk,hm⟩ | ⟨h1,h2⟩
 ·exact Nat.le_of_lt (zvR (λq k h=>layM_iff.2 (.inl h)) hr (hS k hk) hm (layM_iff.2 (.inr ⟨rfl,hk⟩)))
 ·rw[zg3 h2];have:H'=H:=by
   funext q;by_cases e:q=r
   ·rw[e,h1]
   ·exact ho q e
  rw[this];exact zsG _
theorem zhW{G:Gm}(hG:GOk G)(r:Nat):(List.range G.prods.length).filter (λp=>decide ((G.prods.getD p pd0).left.toNat=r))=(List.range G.prods.length).filter (λp=>decide ((G.prods.getD p pd0).left=(r:Int))) :=
 List.filter_congr (λp hp=>by
  rw[List.mem_range] at hp;have:=(hG.pl _ (zan hp)).1;rw[Bool.eq_iff_iff,decide_eq_true_eq,decide_eq_true_eq]
  omega)
theorem ztT{G:Gm}(hG:GOk G){M:Nat->Nat->Bool}{r m:Nat}{S:Nat->Bool}(hm:ctW (zce M r S) r=ctW M r+m):zeo G (ctW (zce M r S)) G.prods.length=zeo G (ctW M) G.prods.length+m * ((List.range G.prods.length).filter λp=>decide ((G.prods.getD p pd0).left=(r:Int))).length:=by
 have h:=zm0 (G:=G) (ct:=ctW M) (ct':=ctW (zce M r S)) hm (λq hq=>ztQ hq) G.prods.length;rw[zhW hG r] at h;exact h
theorem zmm(l:List Bool):∀ k,Wk.Up (zgd l k)/\∀ m,m ∈ zgd l k->m<(k:Int)
 | 0=>⟨by unfold zgd;exact List.Pairwise.nil,λm hm=>by simp[zgd] at hm⟩
 | k+1=>by
   obtain⟨h1,h2⟩:=zmm l k;unfold zgd;refine⟨?_,λm hm=>?_⟩
   ·unfold Wk.Up;refine List.pairwise_append.2 ⟨h1,?_,λa ha b hb=>?_⟩
    ·split <;> simp
    ·have:=h2 a ha
     split at hb
     ·simp at hb;omega
     ·cases hb
   ·rcases List.mem_append.1 hm with hm | hm
    ·have:=h2 m hm;omega
    ·split at hm
     ·simp at hm;omega
     ·cases hm
theorem zvy(l:List Bool):Wk.Up (zgm l):=(zmm l _).1
theorem all_n(A:Nat)(O:Nat->Prop)(f:Int->Bool)(g:Nat->Bool)(nk:Nat)(hfg:∀ m,f m=true↔0<=m/\g m.toNat=true)(hg:∀ k,g k=true->k<nk)(w:World)(h:SetN w A O f)(ht:Tb w.heap.size w) :
 Calls Tryz.prog 121 #[.pointer (some ⟨A,0,none⟩)] w λe w'=>∃ v,e=.returned v/\w'.ownsRow w.heap.size 3 1 v (zgm (zay g nk)).length (zao (zgm (zay g nk)))/\Below w.heap.size w w':=by
 obtain⟨bl,h1,h2⟩:=h.ok;have hc:=Wk.cnt_le 1048576 f
 have e1:zgm (zay g nk)=Wk.allL bl:=Wk.all_is h1.is.up h1.fit (zvy _) (λm=>by
  rw[mem_posL,h2,hfg];constructor
  ·rintro⟨k,rfl,-,hk⟩;exact⟨by omega,by simpa using hk⟩
  ·rintro⟨h3,h4⟩;exact⟨m.toNat,by omega,hg _ h4,h4⟩)
 refine(Wk.all_any A O bl _ (by omega) w h1 (λj hj=>ht.2 j hj) ht.1).mono ?_;rintro e w' ⟨v,he,ho,hb⟩;rw[e1];exact⟨v,he,ho,hb⟩
theorem zkb(tb tc nr nk:Nat)(B:Nat)(A:Nat->Nat)(OO:Nat->Nat->Prop)(rep:Nat->Nat)(C:Nat->Int->Bool)(F:Nat->Nat->Bool)(hnr:nr<=1048576)(w:World)(htab:Tb w.heap.size w)(hCF:∀ x,x<nr->∀ m,C (rep x) m=true↔0<=m/\F x m.toNat=true)(hFn:∀ x k,F x k=true->k<nk)(ht:SetsV B w tb nr A OO rep C) :
 Calls Tryz.prog 111 #[.slice (some ⟨tb,0,none⟩) nr tc] w λe w'=>∃ a c,e=.returned (.slice a (zfz F nk nr).length c)/\(∀ W,zc0 w.heap.size w' W->zeu W a (zfz F nk nr))/\Below w.heap.size w w':=by
 obtain⟨i0,hi,hz0,hz1,hz2⟩:=zah zf1;have Ht:=zaa ht;have HCF:=zaa hCF;have HFn:=zaa hFn;have Htab:=zaa htab;clear ht hCF hFn htab;go_enter Tryz.func111,Tryz.ntmps111;go_wp2
 go_loopw [3,8] (λu x wr=>∃ (k:Nat) (vs:List Value),x=.int .i64 k/\k<=nr/\vs.length=k/\wr.ownsRow w.heap.size 50 1 u k vs/\(∀ j,j<k->∃ v,vs[j]? = some v/\wr.ownsRow w.heap.size 3 1 v (zgm (zay (F j) nk)).length (zao (zgm (zay (F j) nk))))/\Below w.heap.size w wr) (λ_ x _=>nr - (intOf x).toNat)
 case atStart=>exact⟨0,[],rfl,zsK _,rfl,World.ownsRow_nil _ _ _ _,λj hj=>absurd hj (Nat.not_lt_zero _),zsY _ _⟩
 case round =>
  obtain⟨k,vs,rfl,hk,hvs,hown,hrows,hb⟩:=hrel;obtain⟨ua,uc,rfl⟩:=zaf hown;have hsz:=hb.size;have Hown:=zaa hown;have Hb:=zaa hb;have Hrows:=zaa hrows;have Hvs:=zaa hvs;clear hown hb hrows hvs;by_cases hlt:k<nr
  ·have hlt':(k:Int)<nr:=by omega
   have htW:=zaZ (uh Ht) (uh Hb);have ct:=(zbP htW hlt).1;have HL:=zaa (all_n (A (rep k)) (OO (rep k)) (C (rep k)) (F k) nk (uh HCF k hlt) (λm hm=>uh HFn k m hm) wr (htW.set _ (htW.rp k hlt)) (zdz (uh Htab) (zsG _) (uh Hb)));clear htW;go_wp2_with fail;refine(uh HL).mono ?_;rintro e W2 ⟨v2,rfl,hown2,hb2⟩;have Hown2:=zaa (zaR hown2 hsz);have Hb2:=zaa ((uh Hb).trans (zab hb2 hsz));have HownW:=zaa (zaW (uh Hown) hb2)
   have HrowsW:Hid (∀ j,j<k->∃ v,vs[j]? = some v/\W2.ownsRow w.heap.size 3 1 v (zgm (zay (F j) nk)).length (zao (zgm (zay (F j) nk)))):=zaa (λj hj=>by
    obtain⟨v,h1,h2⟩:=uh Hrows j hj
    exact⟨v,h1,zaW h2 hb2⟩)
   have hsz2:=(uh Hb2).size;obtain⟨a2,c2,rfl⟩:=zaf (uh Hown2);clear hown2 hb2 Hrows Hown Hb HL;generalize hP:zgm (zay (F k) nk)=P at *;have HP:=zaa hP;clear hP;go_wp2_with (at_builtin;refine wpList_append_own _ rfl _ _ 43 rfl w.heap.size 50 i0 (.slice none 0 0) 1 24 Tryz.underlying43 hi hz0 hz1 hz2 rfl (by decide) _ _ _ rfl ((uh HownW).alloc _) ⟨W2.heap.size,0,none⟩ 1 1 [.slice a2 P.length c2] rfl rfl ?zc1 ?zc2 ?zc3 ?zc4 ?zc5 ?_)
   case zc1=>exact zpR _ _ _
   case zc2=>intro u hu;simp at hu;rcases hu with rfl;rfl
   case zc3=>unfold maxLen;omega
   case zc4=>omega
   case zc5=>simp;omega
   intro v' W3 hown' hgrow _;have Hb4:=zaa (((uh Hb2).alloc hsz2 _).grown hgrow (by simp;omega) (λj hj=>((uh HownW).lt j hj).1))
   have Hr4:Hid (∀ j,j<k+1->∃ v,(vs ++ [.slice a2 P.length c2])[j]? = some v/\W3.ownsRow w.heap.size 3 1 v (zgm (zay (F j) nk)).length (zao (zgm (zay (F j) nk)))):=zaa (λj hj=>by
    have hv:=uh Hvs;by_cases e:j=k
    ·subst e;refine⟨.slice a2 P.length c2,by rw[List.getElem?_append_right (by omega),hv];simp,?_⟩;rw[uh HP];exact zjV ((uh Hown2).alloc _) ((uh HownW).alloc _) hgrow (by decide)
    ·obtain⟨v,h1,h2⟩:=uh HrowsW j (by omega);refine⟨v,by rw[List.getElem?_append_left (by omega)];exact h1,?_⟩
     exact zjV (h2.alloc _) ((uh HownW).alloc _) hgrow (by decide))
   have Ho4:=zaa hown';have Hv4:Hid ((vs ++ [Value.slice a2 P.length c2]).length=k+1):=zaa (by rw[zsI,uh Hvs];rfl);clear hown' hgrow;go_wp2;go_roundw
   case rel=>exact⟨k+1,_,by go_num,by omega,uh Hv4,uh Ho4,uh Hr4,uh Hb4⟩
   case measure=>simp[intOf];omega
  ·obtain rfl:k=nr:=by omega
   have hpl:(zfz F nk k).length=k:=by simp[zfz]
   have Hpl:=zaa hpl;clear hpl;go_wp2;go_ret;rw[uh Hpl];refine⟨_,_,rfl,λW hW=>?_,uh Hb⟩;have HownW:=zaa (zgP (uh Hown) hW);rcases(uh HownW).2 with ⟨hv,hn⟩ | ⟨g,cap,cur,hv,hg,hh,-⟩
   ·exact .inl (zsX (by rw[uh Hpl];exact hn))
   ·cases hv
    refine .inr ⟨g,0,rfl,(zsO.1 hh).1,λj hj=>?_⟩;rw[uh Hpl] at hj;obtain⟨v,h1,h2⟩:=uh Hrows j hj;obtain⟨a,c,rfl,h3⟩:=zb4 (zgP h2 hW);have e:(zfz F nk k).getD j []=zgm (zay (F j) nk):=by simp[zfz,hj]
    rw[e];exact⟨a,c,by rw[Nat.zero_add,(uh HownW).cellAt j (by omega)];exact h1,h3⟩
end Go.Proofs.YtieciibnajeibaaGreatDoor

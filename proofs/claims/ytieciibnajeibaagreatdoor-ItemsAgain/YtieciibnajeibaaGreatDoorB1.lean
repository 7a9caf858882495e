import Derived.Test.YtieciibnajeibaaGreatDoorP0
import Derived.Deep.DeepCutAuto
set_option maxHeartbeats 8000000
set_option maxRecDepth 100000
namespace Go.Proofs.YtieciibnajeibaaGreatDoor
open Go.RowKit
def zet(nk:Nat)(null:Nat->Bool)(F:Nat->Nat->Bool):List Int->Nat->Bool
 | [],_=>false
 | x::xs,k=>if x<nk then decide (k=x.toNat) else F (x - nk).toNat k || (null (x - nk).toNat && zet nk null F xs k)
theorem zqJ{row:List Int}{i:Nat}(h:i<row.length):row.drop i=row.getD i 0::row.drop (i+1):=by
 rw[List.drop_eq_getElem_cons h,zsE,zsF h];rfl
variable{B B' e e' k lo m n s s':Nat}{a:Option Addr}{b w w':World}{f:Nat->Bool}{l:List Int}{v v':Value}{xs ys:List Value}
theorem zah{P:Program}{e:TypeId}{z:Option Value}{b:Nat}(h:(P.info? e).map (λi=>(i.zero,i.size,i.bytes))=some (z,n,b)):∃ i,P.info? e=some i/\i.zero=z/\i.size=n/\i.bytes=b:=by
 cases hi:P.info? e with
 | none=>rw[hi] at h;cases h
 | some i=>rw[hi] at h;simp at h;exact⟨i,rfl,h.1,h.2.1,h.2.2⟩
theorem zf1:(Tryz.prog.info? 50).map (λi=>(i.zero,i.size,i.bytes))=some (some (.slice none 0 0),1,24):=by kernel_rfl
theorem zdB:(Tryz.prog.info? 3).map (λi=>(i.zero,i.size,i.bytes))=some (some (.int .i64 0),1,8):=by kernel_rfl
theorem zpR(w:World)(x:Value)(t:TypeId):∀ j u,[x][j]? = some u->(w.alloc (.cells #[x] t)).cell? ((⟨w.heap.size,0,none⟩:Addr).add j)=some u:=by
 intro j u hj
 cases j with
 | zero =>
   simp at hj;subst hj;show (w.alloc (.cells #[x] t)).cell? ⟨w.heap.size,0+0,none⟩=some x;unfold World.cell?;rw[zsH];rfl
 | succ j=>simp at hj
def zxy(w:World)(a:Option Addr)(l:List Bool):Prop :=
 l=[]\/∃ b off,a=some ⟨b,off,none⟩/\b<w.heap.size/\∀ j,j<l.length->w.cell? ⟨b,off+j,none⟩=some (.bool (l.getD j false))
theorem zvS{l:List Bool}(h:zxy w a l)(hk:k<l.length):∃ b off,a=some ⟨b,off,none⟩/\b<w.heap.size/\w.cell? ⟨b,off+k,none⟩=some (.bool (l.getD k false)):=by
 rcases h with rfl | ⟨b,off,h1,h2,h3⟩
 ·simp at hk
 ·exact⟨b,off,h1,h2,h3 k hk⟩
def zay(f:Nat->Bool)(n:Nat):List Bool:=(List.range n).map f
theorem zaQ(f:Nat->Bool)(n:Nat):(zay f n).length=n:=by simp[zay]
theorem zdY(h:k<n):(zay f n).getD k false=f k:=by simp[zay,h]
theorem zeh{b:Nat}(h:w.rowIs b 4 n (λr=>.bool (f r))):zxy w (some ⟨b,0,none⟩) (zay f n) :=
 .inr ⟨b,0,rfl,h.lt,λj hj=>by
  rw[zaQ] at hj;rw[zdY hj,Nat.zero_add]
  exact h.cell hj⟩
def zgd(l:List Bool):Nat->List Int
 | 0=>[]
 | k+1=>zgd l k ++ if l.getD k false then[(k:Int)] else[]
def zgm(l:List Bool):List Int:=zgd l l.length
theorem ziE(l:List Bool):∀ k,(zgd l k).length<=k
 | 0=>zsG _
 | k+1=>by
   have:=ziE l k;unfold zgd;rw[zsI]
   split <;> simp <;> omega
def zao(l:List Int):List Value:=l.map (Value.int .i64)
theorem zaY(l:List Int)(x:Int):zao l ++ [.int .i64 x]=zao (l ++ [x]):=by simp[zao]
theorem zbh(l:List Int):(zao l).length=l.length:=by simp[zao]
theorem zb4(h:w.ownsRow B 3 1 v l.length (zao l)):∃ a c,v=.slice a l.length c/\NRow w.heap.size w a l:=by
 obtain⟨a,c,rfl⟩:=zaf h;refine⟨a,c,rfl,?_⟩;rcases h.2 with ⟨hv,hn⟩ | ⟨g,cap,cur,hv,hg,hh,-⟩
 ·exact .inl (zsX hn)
 ·cases hv
  refine .inr ⟨g,0,rfl,(zsO.1 hh).1,λj hj=>?_⟩;rw[Nat.zero_add,h.cellAt j (by omega)];simp[zao,List.getD_eq_getElem?_getD,hj]
theorem zvD(h:w.ownsRow B e s v n xs)(h':w.ownsRow B' e' s' v' m ys)(hne:e≠e'):∀ k,v.ownBlock=some k->v'.ownBlock≠some k:=by
 intro k hk hk';rcases h.2 with ⟨rfl,-⟩ | ⟨g,cap,cur,rfl,-,hg,-⟩
 ·simp[Value.ownBlock] at hk
 ·rcases h'.2 with ⟨rfl,-⟩ | ⟨g',cap',cur',rfl,-,hg',-⟩
  ·simp[Value.ownBlock] at hk'
  ·simp[Value.ownBlock] at hk hk';subst hk;subst hk';rw[hg] at hg';simp at hg';exact hne hg'.2
theorem zjV(h:w.ownsRow B e s v n xs)(h':w.ownsRow B' e' s' v' m ys)(hg:w.grownBy w' v'.ownBlock)(hne:e≠e'):w'.ownsRow B e s v n xs:=by
 refine⟨h.1,?_⟩;rcases h.2 with h0 | ⟨g,cap,cur,hv,h1,h2,rest⟩
 ·exact .inl h0
 ·exact .inr ⟨g,cap,cur,hv,h1,(hg.block g (zsO.1 h2).1 (λe=>zvD h h' hne g (by rw[hv];rfl) e.symm)).trans h2,rest⟩
theorem zaW(h:w.ownsRow B e s v n xs)(hb:Below w.heap.size w w'):w'.ownsRow B e s v n xs:=by
 refine⟨h.1,?_⟩;rcases h.2 with h0 | ⟨g,cap,cur,hv,h1,h2,rest⟩
 ·exact .inl h0
 ·exact .inr ⟨g,cap,cur,hv,h1,(hb.block g (zsO.1 h2).1).trans h2,rest⟩
theorem zaR(h:w.ownsRow B e s v n xs)(hB:B'<=B):w.ownsRow B' e s v n xs:=by
 refine⟨h.1,?_⟩;rcases h.2 with h0 | ⟨g,cap,cur,hv,h1,rest⟩
 ·exact .inl h0
 ·exact .inr ⟨g,cap,cur,hv,by omega,rest⟩
def zeu(w:World)(a:Option Addr)(ll:List (List Int)):Prop :=
 ll=[]\/∃ b off,a=some ⟨b,off,none⟩/\b<w.heap.size/\∀ j,j<ll.length->∃ ra rc,w.cell? ⟨b,off+j,none⟩=some (.slice ra (ll.getD j []).length rc)/\NRow w.heap.size w ra (ll.getD j [])
theorem zfJ(h:NRow w.heap.size w a l)(hb:Below w.heap.size w w'):NRow w'.heap.size w' a l:=by
 rcases zaS hb h with h | ⟨b,off,h1,h2,h3⟩
 ·exact .inl h
 ·exact .inr ⟨b,off,h1,zsJ h2 hb.size,h3⟩
theorem zbE{l:List (List Int)}(h:zeu w a l)(hb:Below w.heap.size w w'):zeu w' a l:=by
 rcases h with h | ⟨b,off,h1,h2,h3⟩
 ·exact .inl h
 ·refine .inr ⟨b,off,h1,zsJ h2 hb.size,λj hj=>?_⟩;obtain⟨ra,rc,h4,h5⟩:=h3 j hj;exact⟨ra,rc,(hb.cell h2).trans h4,zfJ h5 hb⟩
def zfz(F:Nat->Nat->Bool)(nk n:Nat):List (List Int):=(List.range n).map λr=>zgm (zay (F r) nk)
def zc0(lo:Nat)(w W:World):Prop:=w.heap.size<=W.heap.size/\∀ k,lo<=k->k<w.heap.size->W.heap[k]? = w.heap[k]?
theorem zj4{a c:World}(h:zc0 lo a b)(k:zc0 lo b c):zc0 lo a c:=⟨zsy h.1 k.1,λj h1 h2=>(k.2 j h1 (zsJ h2 h.1)).trans (h.2 j h1 h2)⟩
theorem zfc{a:World}(h:Below a.heap.size a b):zc0 lo a b:=⟨h.size,λk _ hk=>h.block k hk⟩
theorem znP{O:Nat->Prop}{a:World}(h:Fr O a b)(hO:∀ k,O k->k<lo):zc0 lo a b:=⟨h.1,λk h1 h2=>h.2.1 k h2 (λho=>by have:=hO k ho;omega)⟩
theorem zgP{W:World}(h:w.ownsRow B e s v n xs)(hk:zc0 B w W):W.ownsRow B e s v n xs:=by
 refine⟨h.1,?_⟩;rcases h.2 with h0 | ⟨g,cap,cur,hv,h1,h2,rest⟩
 ·exact .inl h0
 ·exact .inr ⟨g,cap,cur,hv,h1,(hk.2 g h1 (zsO.1 h2).1).trans h2,rest⟩
theorem getD_cons_succ(x:Int)(xs:List Int)(i:Nat):(x::xs).getD (i+1) 0=xs.getD i 0:=rfl
theorem begB_iff{nk:Nat}{null:Nat->Bool}{F:Nat->Nat->Bool}{k:Nat}:∀ {row:List Int},zet nk null F row k=true↔∃ i,i<row.length/\zar nk null (row.take i)=true/\((row.getD i 0<nk/\k=(row.getD i 0).toNat)\/((nk:Int)<=row.getD i 0/\F (row.getD i 0 - nk).toNat k=true))
 | []=>by simp[zet]
 | x::xs=>by
   unfold zet;by_cases hx:x<nk
   · rw [if_pos hx, decide_eq_true_eq];constructor
     · intro h;exact⟨0,by simp,rfl,.inl ⟨hx,h⟩⟩
     · rintro⟨i,hi,he,h⟩
       cases i with
       | zero =>
         rcases h with h | h
         · exact h.2
         · have:=h.1;simp at this;omega
       | succ i =>
         rw[emptyB_iff] at he;have:=(he x (by simp)).1;omega
   · rw [if_neg hx, Bool.or_eq_true, Bool.and_eq_true, begB_iff (row := xs)];constructor
     · rintro(h | ⟨h0,i,hi,he,h⟩)
       · exact⟨0,by simp,rfl,.inr ⟨by simp;omega,h⟩⟩
       · refine⟨i+1,by simp;exact hi,?_,h⟩;rw[emptyB_iff] at he ⊢;intro y hy;rw[List.take_succ_cons,List.mem_cons] at hy;rcases hy with rfl | hy
         · exact⟨by omega,h0⟩
         · exact he y hy
     · rintro⟨i,hi,he,h⟩
       cases i with
       | zero =>
         rcases h with h | h
         · exact absurd h.1 hx
         · exact .inl h.2
       | succ i =>
         rw[emptyB_iff] at he;refine .inr ⟨(he x (by simp)).2,i,by simpa using hi,?_,h⟩;rw[emptyB_iff];exact λy hy=>he y (by rw[List.take_succ_cons];exact List.mem_cons_of_mem _ hy)
inductive Fst (G:Gm):Nat->Nat->Prop
 | kind (p:Pd) (hp:p ∈ G.prods) (i:Nat) (hi:i<p.right.length) (he:zar G.nk (zat G) (p.right.take i)=true) (hx:p.right.getD i 0<G.nk):Fst G p.left.toNat (p.right.getD i 0).toNat
 | rule (p:Pd) (hp:p ∈ G.prods) (i:Nat) (hi:i<p.right.length) (he:zar G.nk (zat G) (p.right.take i)=true) (hx:(G.nk:Int)<=p.right.getD i 0) (k:Nat) (h:Fst G (p.right.getD i 0 - G.nk).toNat k):Fst G p.left.toNat k
open Classical in
noncomputable def zdy(G:Gm):Nat->Nat->Bool:=λr k=>decide (Fst G r k)
theorem zfS(G:Gm)(r k:Nat):zdy G r k=true↔Fst G r k:=by unfold zdy;simp
theorem zmQ{G:Gm}(hG:GOk G){r:Nat}(h:Fst G r k):k<G.nk:=by
 induction h with
 | kind p hp i hi he hx =>
   have:=hG.py p hp _ (zbg hi);omega
 | rule p hp i hi he hx k h ih=>exact ih
def zrM(F:Nat->Nat->Bool)(nk:Nat):Nat->Nat
 | 0=>0
 | n+1=>zrM F nk n+zkR (F n) nk
theorem zqV{F H:Nat->Nat->Bool}{nk:Nat}:∀ n,(∀ r,r<n->∀ k,k<nk->F r k=true->H r k=true)->zrM H nk n<=zrM F nk n
 | 0,_=>zsG _
 | n+1,h=>by
   have:=zqV n (λr hr=>h r (by omega));have:=zjf nk (h n (by omega));unfold zrM;omega
theorem zqU{F H:Nat->Nat->Bool}{nk:Nat}:∀ n,(∀ r,r<n->∀ k,k<nk->F r k=true->H r k=true)->∀ r,r<n->∀ k,k<nk->F r k=false->H r k=true->zrM H nk n<zrM F nk n
 | 0,_,r,hr,_,_,_,_=>by omega
 | n+1,h,r,hr,k,hk,h0,h1=>by
   unfold zrM;by_cases e:r=n
   ·subst e;have:=zqV r (λs hs=>h s (by omega));have:=zje nk (h r (by omega)) k hk h0 h1;omega
   ·have:=zqU n (λs hs=>h s (by omega)) r (by omega) k hk h0 h1;have:=zjf nk (h n (by omega));omega
end Go.Proofs.YtieciibnajeibaaGreatDoor
namespace Go.Proofs.YtieciibnajeibaaGreatDoor
open Go.RowKit
abbrev It:=Int × Int × Int
def it0:It:=(0,0,0)
def ltI(a b:It):Prop:=a.1<b.1\/(a.1=b.1/\(a.2.1<b.2.1\/(a.2.1=b.2.1/\a.2.2<b.2.2)))
instance (a b:It):Decidable (ltI a b):=by unfold ltI;exact inferInstance
theorem zuF{a b:It}(h1:a.1=b.1)(h2:a.2.1=b.2.1)(h3:a.2.2=b.2.2):a=b:=Prod.ext h1 (Prod.ext h2 h3)
theorem zdN(a:It):¬ ltI a a:=by unfold ltI;omega
theorem zbr{a b c:It}(h:ltI a b)(k:ltI b c):ltI a c:=by unfold ltI at *;omega
theorem zgW{a b:It}(h:ltI a b):¬ ltI b a:=λk=>zdN a (zbr h k)
theorem zgV(a b:It):ltI a b\/a=b\/ltI b a:=by
 by_cases h:a=b
 ·exact .inr (.inl h)
 ·have:¬ (a.1=b.1/\a.2.1=b.2.1/\a.2.2=b.2.2):=fun⟨h1,h2,h3⟩=>h (zuF h1 h2 h3);unfold ltI;omega
theorem ltI_ne{a b:It}(h:ltI a b):a≠b:=λe=>zdN b (e▸h)
def UpI(l:List It):Prop:=l.Pairwise ltI
theorem zd4:∀ {a b:List It},UpI a->UpI b->(∀ x,x ∈ a↔x ∈ b)->a=b
 | [],[],_,_,_=>rfl
 | [],y::ys,_,_,h=>by have:=(h y).2 (by simp);simp at this
 | x::xs,[],_,_,h=>by have:=(h x).1 (by simp);simp at this
 | x::xs,y::ys,ha,hb,h=>by
   have ha':=List.pairwise_cons.1 ha;have hb':=List.pairwise_cons.1 hb;have e:x=y:=by
    rcases List.mem_cons.1 ((h x).1 (by simp)) with e | e
    ·exact e
    ·rcases List.mem_cons.1 ((h y).2 (by simp)) with e' | e'
     ·exact e'.symm
     ·exact absurd (hb'.1 x e) (zgW (ha'.1 y e'))
   subst e;rw[zd4 ha'.2 hb'.2 (λz=>?_)];constructor
   ·intro hz;rcases List.mem_cons.1 ((h z).1 (List.mem_cons_of_mem _ hz)) with e | e
    ·exact absurd (ha'.1 z hz) (e▸zdN x)
    ·exact e
   ·intro hz;rcases List.mem_cons.1 ((h z).2 (List.mem_cons_of_mem _ hz)) with e | e
    ·exact absurd (hb'.1 z hz) (e▸zdN x)
    ·exact e
def zrL(x:It):List It->List It
 | []=>[x]
 | y::ys=>if ltI x y then x::y::ys else if x=y then y::ys else y::zrL x ys
theorem mem_insI{x z:It}:∀ {l:List It},z ∈ zrL x l↔z=x\/z ∈ l
 | []=>by simp[zrL]
 | y::ys=>by
   unfold zrL;by_cases h:ltI x y
   ·rw[if_pos h];simp
   · rw [if_neg h];by_cases e:x=y
     · rw[if_pos e,e];simp
     · rw[if_neg e,List.mem_cons,mem_insI,List.mem_cons];constructor
       · rintro(h | h | h)
         · exact .inr (.inl h)
         · exact .inl h
         · exact .inr (.inr h)
       · rintro(h | h | h)
         · exact .inr (.inl h)
         · exact .inl h
         · exact .inr (.inr h)
theorem zl1{x:It}:∀ {l:List It},UpI l->UpI (zrL x l)
 | [],_=>by simp[zrL,UpI]
 | y::ys,h=>by
   have h':=List.pairwise_cons.1 h;unfold zrL;by_cases hx:ltI x y
   ·rw[if_pos hx];refine List.pairwise_cons.2 ⟨λz hz=>?_,h⟩;rcases List.mem_cons.1 hz with e | e
    ·exact e▸hx
    ·exact zbr hx (h'.1 z e)
   · rw [if_neg hx];by_cases e:x=y
     · rw[if_pos e];exact h
     · rw[if_neg e];refine List.pairwise_cons.2 ⟨λz hz=>?_,zl1 h'.2⟩;rcases mem_insI.1 hz with hz | hz
       · rw[hz];rcases zgV x y with k | k | k
         · exact absurd k hx
         · exact absurd k e
         · exact k
       · exact h'.1 z hz
def zfB(l:List It):List It:=l.foldr zrL []
theorem mem_ordI{z:It}:∀ {l:List It},z ∈ zfB l↔z ∈ l
 | []=>by simp[zfB]
 | x::xs=>by
   show z ∈ zrL x (zfB xs)↔_;rw[mem_insI,mem_ordI,List.mem_cons]
theorem zd5:∀ (l:List It),UpI (zfB l)
 | []=>List.Pairwise.nil
 | x::xs=>by show UpI (zrL x (zfB xs));exact zl1 (zd5 xs)
theorem znG{a b:List It}(h:∀ x,x ∈ a↔x ∈ b):zfB a=zfB b:=zd4 (zd5 a) (zd5 b) (λx=>by rw[mem_ordI,mem_ordI];exact h x)
theorem zfC:∀ {a b:List It},UpI a->(∀ x,x ∈ a->x ∈ b)->a.length<=b.length
 | [],_,_,_=>zsK _
 | x::xs,b,h,hs=>by
   have h':=List.pairwise_cons.1 h;have hx:=hs x (by simp);have ih:=zfC (b:=b.erase x) h'.2 (λy hy=>(List.mem_erase_of_ne (ltI_ne (h'.1 y hy)).symm).2 (hs y (List.mem_cons_of_mem _ hy)));rw[List.length_erase_of_mem hx] at ih;have:0<b.length:=List.length_pos_of_mem hx;rw[List.length_cons];omega
theorem zdG{l:List It}(h:UpI l){i j:Nat}(hij:i<j)(hj:j<l.length):ltI (l.getD i it0) (l.getD j it0):=by
 rw[zsE,zsE,zsF (by omega),zsF hj];exact List.pairwise_iff_getElem.1 h i j (by omega) hj hij
theorem zrP{l:List It}{x:It}(h:UpI l)(hx:∀ y,y ∈ l->ltI y x):UpI (l ++ [x]) :=
 List.pairwise_append.2 ⟨h,by simp,λa ha b hb=>by simp at hb;exact hb▸hx a ha⟩
def zas(G:Gm)(p:Int):List Int:=if p=G.prods.length then[(G.kinds.length:Int)+G.start] else(G.prods.getD p.toNat pd0).right
def zcv(G:Gm)(x:It):Bool:=decide (0<=x.1/\x.1<=G.prods.length/\0<=x.2.1/\x.2.1<=(zas G x.1).length/\0<=x.2.2/\x.2.2<G.kinds.length)
def zdv(G:Gm)(l:List It):Bool:=l.all (zcv G)
variable{G:Gm}{k p:Nat}
theorem areIt_iff{l:List It}:zdv G l=true↔∀ x,x ∈ l->zcv G x=true:=List.all_eq_true
theorem zdI(G:Gm):zas G G.prods.length=[(G.kinds.length:Int)+G.start]:=if_pos rfl
theorem zeK(h:p<G.prods.length):zas G p=(G.prods.getD p pd0).right:=by
 unfold zas;rw[if_neg (by omega)];rfl
theorem zbe(hG:GOk G){p:Int}(h0:0<=p)(h1:p<=G.prods.length):zjE (G.kinds.length+G.rules.length) (zas G p):=by
 intro x hx;by_cases e:p=G.prods.length
 ·rw[e,zdI] at hx;simp at hx;have:=hG.s0;have:=hG.s1;have:=hG.k2;unfold Gm.nk at *;unfold Gm.nr at *;omega
 ·obtain⟨q,rfl⟩:∃ q:Nat,p=q:=⟨p.toNat,by omega⟩;rw[zeK (by omega)] at hx;exact hG.py _ (zan (by omega)) x hx
theorem zcu(hG:GOk G){p:Int}(h0:0<=p)(h1:p<=G.prods.length):(zas G p).length<=64:=by
 by_cases e:p=G.prods.length
 ·rw[e,zdI];simp
 ·obtain⟨q,rfl⟩:∃ q:Nat,p=q:=⟨p.toNat,by omega⟩;rw[zeK (by omega)];exact hG.pr _ (zan (by omega))
def zdh(G:Gm)(x:It):Option Int:=(zas G x.1)[x.2.1.toNat]?
def zdA(G:Gm)(x:It):List Int:=(zas G x.1).drop (x.2.1.toNat+1)
noncomputable def zb2(G:Gm)(row:List Int)(L:Nat->Bool)(k:Nat):Bool:=zet G.nk (zat G) (zdy G) row k || (zar G.nk (zat G) row && L k)
def zlh(x:It):Nat->Bool:=λk=>decide (x.2.2=(k:Int))
inductive Dm (G:Gm) (l:List It):Nat->Nat->Prop
 | base (x:It) (hx:x ∈ l) (r:Nat) (hr:zdh G x=some ((G.nk:Int)+r)) (k:Nat) (hk:zb2 G (zdA G x) (zlh x) k=true) (hn:k<G.nk):Dm G l r k
 | step (r k:Nat) (h:Dm G l r k) (p:Nat) (hp:p<G.prods.length) (hl:(G.prods.getD p pd0).left=(r:Int)) (r':Nat) (hr:zdh G ((p:Int),0,(k:Int))=some ((G.nk:Int)+r')) (k':Nat) (hk:zb2 G (zdA G ((p:Int),0,(k:Int))) (zlh ((p:Int),0,(k:Int))) k'=true) (hn:k'<G.nk):Dm G l r' k'
def zxI(G:Gm)(l:List It)(x:It):Prop:=x ∈ l\/∃ p k:Nat,x=((p:Int),0,(k:Int))/\p<G.prods.length/\k<G.nk/\∃ r:Nat,(G.prods.getD p pd0).left=(r:Int)/\Dm G l r k
open Classical in
noncomputable def dmF(G:Gm)(l:List It)(r k:Nat):Bool:=decide (Dm G l r k)
theorem zqM(G:Gm)(l:List It)(r k:Nat):dmF G l r k=true↔Dm G l r k:=by unfold dmF;simp
noncomputable def newI(G:Gm)(l:List It):List It:=(List.range G.prods.length).flatMap λp=>((List.range G.nk).filter λk=>dmF G l (G.prods.getD p pd0).left.toNat k).map λ(k:Nat)=>((p:Int),0,(k:Int))
theorem ztd(hG:GOk G){l:List It}{x:It}:x ∈ newI G l↔∃ p k:Nat,x=((p:Int),0,(k:Int))/\p<G.prods.length/\k<G.nk/\∃ r:Nat,(G.prods.getD p pd0).left=(r:Int)/\Dm G l r k:=by
 unfold newI;rw[List.mem_flatMap];constructor
 ·rintro⟨p,hp,hx⟩;rw[List.mem_range] at hp;obtain⟨k,hk,rfl⟩:=List.mem_map.1 hx;rw[List.mem_filter,List.mem_range,zqM] at hk;have:=(hG.pl _ (zan hp)).1;exact⟨p,k,rfl,hp,hk.1,_,by omega,hk.2⟩
 ·rintro⟨p,k,rfl,hp,hk,r,hl,hd⟩;refine⟨p,by simpa using hp,List.mem_map.2 ⟨k,?_,rfl⟩⟩;rw[List.mem_filter,List.mem_range,zqM,hl];exact⟨hk,hd⟩
noncomputable def clL(G:Gm)(l:List It):List It:=zfB (l ++ newI G l)
theorem zcE(hG:GOk G){l:List It}{x:It}:x ∈ clL G l↔zxI G l x:=by
 unfold clL zxI;rw[mem_ordI,List.mem_append,ztd hG]
theorem zeD(G:Gm)(l:List It):UpI (clL G l):=zd5 _
noncomputable def clR(G:Gm)(l:List It):List It:=if (clL G l).length<=65536 then clL G l else[]
noncomputable def clV(G:Gm)(l:List It):Int:=if (clL G l).length<=65536 then 0 else 7
theorem zi3(hp:p<G.prods.length)(hk:k<G.nk):zcv G ((p:Int),0,(k:Int))=true:=by
 unfold Gm.nk at hk;exact decide_eq_true (by refine⟨?_,?_,?_,?_,?_,?_⟩ <;> simp only <;> omega)
theorem zqg(hG:GOk G){l:List It}(h:∀ x,x ∈ l->zcv G x=true):∀ x,x ∈ clL G l->zcv G x=true:=λx hx=>by
 rcases(zcE hG).1 hx with hx | ⟨p,k,rfl,hp,hk,-⟩
 ·exact h x hx
 ·exact zi3 hp hk
theorem zwP(hG:GOk G){l s:List It}(hup:UpI s)(h1:∀ x,x ∈ l->x ∈ s)(h2:∀ x,x ∈ s->zxI G l x)
 (h3:∀ x,x ∈ s->∀ r:Nat,zdh G x=some ((G.nk:Int)+r)->∀ k,k<G.nk->zb2 G (zdA G x) (zlh x) k=true->∀ p,p<G.prods.length->(G.prods.getD p pd0).left=(r:Int)->((p:Int),0,(k:Int)) ∈ s):s=clL G l:=by
 refine zd4 hup (zeD G l) (λx=>⟨λhx=>(zcE hG).2 (h2 x hx),λhx=>?_⟩);have key:∀ r k,Dm G l r k->k<G.nk/\∀ p,p<G.prods.length->(G.prods.getD p pd0).left=(r:Int)->((p:Int),0,(k:Int)) ∈ s:=λr k hd=>by
  induction hd with
  | base y hy r hr k hk hn=>exact⟨hn,λp hp hl=>h3 y (h1 y hy) r hr k hn hk p hp hl⟩
  | step r k h q hq hql r' hr k' hk hn ih=>exact⟨hn,λp hp hl=>h3 _ (ih.2 q hq hql) r' hr k' hn hk p hp hl⟩
 rcases(zcE hG).1 hx with hx | ⟨p,k,rfl,hp,hk,r,hl,hd⟩
 ·exact h1 x hx
 ·exact(key r k hd).2 p hp hl
theorem dm_in{l:List It}{x:It}(h:zxI G l x){r:Nat}(hr:zdh G x=some ((G.nk:Int)+r))(hn:k<G.nk)(hk:zb2 G (zdA G x) (zlh x) k=true):Dm G l r k:=by
 rcases h with h | ⟨p,k0,rfl,hp,hk0,r0,hl,hd⟩
 ·exact .base x h r hr k hk hn
 ·exact .step r0 k0 hd p hp hl r hr k hk hn
end Go.Proofs.YtieciibnajeibaaGreatDoor
namespace Go.Proofs.YtieciibnajeibaaGreatDoor
open Go.RowKit
variable{B k n p r r':Nat}{G:Gm}{H H' S:Nat->Bool}{M:Nat->Nat->Bool}{a:Option Addr}{done:List Nat}{l:List It}{v:Value}{w w':World}{x:It}
theorem lookB_iff{row:List Int}{L:Nat->Bool}:zb2 G row L k=true↔zet G.nk (zat G) (zdy G) row k=true\/(zar G.nk (zat G) row=true/\L k=true):=by
 unfold zb2;rw[Bool.or_eq_true,Bool.and_eq_true]
theorem zjn{G:Gm}(hG:GOk G):∀ {row:List Int} (_:∀ x,x ∈ row->0<=x) {k:Nat},zet G.nk (zat G) (zdy G) row k=true->k<G.nk
 | [],_,_,h=>by cases h
 | x::xs,hx,k,h=>by
   unfold zet at h;have h0:=hx x (by simp)
   split at h
   ·have:=of_decide_eq_true h;omega
   ·rw[Bool.or_eq_true,Bool.and_eq_true] at h;rcases h with h | h
    ·exact zmQ hG ((zfS G _ _).1 h)
    ·exact zjn hG (λy hy=>hx y (List.mem_cons_of_mem _ hy)) h.2
def zce(M:Nat->Nat->Bool)(r:Nat)(S:Nat->Bool):Nat->Nat->Bool:=λq k=>M q k || (decide (q=r) && S k)
theorem layM_iff{q:Nat}:zce M r S q k=true↔M q k=true\/(q=r/\S k=true):=by
 unfold zce;rw[Bool.or_eq_true,Bool.and_eq_true,decide_eq_true_eq]
def ShutP(G:Gm)(M:Nat->Nat->Bool)(p r:Nat):Prop:=∀ k,M r k=true->∀ r':Nat,zdh G ((p:Int),0,(k:Int))=some ((G.nk:Int)+r')->∀ k',k'<G.nk->zb2 G (zdA G ((p:Int),0,(k:Int))) (zlh ((p:Int),0,(k:Int))) k'=true->M r' k'=true
structure ClI (G:Gm) (l:List It) (n:Nat) (M:Nat->Nat->Bool) (H:Nat->Bool):Prop where
 snd:∀ r k,M r k=true->Dm G l r k
 base:∀ i,i<n->∀ r:Nat,zdh G (l.getD i it0)=some ((G.nk:Int)+r)->∀ k,k<G.nk->zb2 G (zdA G (l.getD i it0)) (zlh (l.getD i it0)) k=true->M r k=true
 shut:∀ r,H r=false->∀ p,p<G.prods.length->(G.prods.getD p pd0).left=(r:Int)->ShutP G M p r
 some:∀ r,H r=true->∃ k,M r k=true
theorem zlJ(h:Dm G l r k):k<G.nk:=by cases h <;> assumption
theorem zk3(hG:GOk G)(hx:zcv G x=true)(h:zdh G x=some ((G.nk:Int)+r)):r<G.nr:=by
 have hx:=of_decide_eq_true hx;have h1:=List.mem_of_getElem? (by exact h:(zas G x.1)[x.2.1.toNat]? = _);have:=zbe hG hx.1 hx.2.1 _ h1;unfold Gm.nk Gm.nr at *;omega
theorem dm_r(hG:GOk G)(hl:∀ x,x ∈ l->zcv G x=true)(h:Dm G l r k):r<G.nr:=by
 cases h with
 | base x hx r hr k hk hn=>exact zk3 hG (hl x hx) hr
 | step r0 k0 h0 p hp hp' r hr k hk hn=>exact zk3 hG (zi3 hp (zlJ h0)) hr
theorem zq7(G:Gm)(l:List It):ClI G l 0 (λ_ _=>false) (λ_=>false) :=
 ⟨(λ_ _ h=>by cases h),(λ_ h=>absurd h (Nat.not_lt_zero _)),(λ_ _ _ _ _ _ h=>by cases h),(λ_ h=>by cases h)⟩
theorem zt3(h:ClI G l n M H)(hn:∀ r:Nat,zdh G (l.getD n it0)≠some ((G.nk:Int)+r)):ClI G l (n+1) M H:=by
 refine⟨h.snd,λi hi r hr k hk hl=>?_,h.shut,h.some⟩;by_cases e:i=n
 ·subst e;exact absurd hr (hn r)
 ·exact h.base i (by omega) r hr k hk hl
theorem zwN(h:ClI G l n M H)(hs:∀ k,S k=true->Dm G l r k)
 (hH:∀ q,q≠r->H' q=H q) (hr:(H' r=true/\∃ k,S k=true)\/(H' r=H r/\∀ k,S k=true->M r k=true)):ClI G l n (zce M r S) H':=by
 have hmono:∀ q k,M q k=true->zce M r S q k=true:=λq k hk=>layM_iff.2 (.inl hk);refine⟨λq k hk=>?_,λi hi q hq k hk hl=>hmono _ _ (h.base i hi q hq k hk hl),λq hq p hp hl k hk r' hr' k' hk' hlk=>?_,λq hq=>?_⟩
 ·rcases layM_iff.1 hk with hk2 | ⟨rfl,hk2⟩
  ·exact h.snd q k hk2
  ·exact hs k hk2
 ·have hM:M q k=true:=by
   rcases layM_iff.1 hk with hk2 | ⟨rfl,hk2⟩
   ·exact hk2
   ·rcases hr with ⟨hr,-⟩ | ⟨-,hr⟩
    ·rw[hr] at hq;cases hq
    ·exact hr k hk2
  have hq':H q=false:=by
   by_cases e:q=r
   ·subst e;rcases hr with ⟨hr,-⟩ | ⟨hr,-⟩
    ·rw[hr] at hq;cases hq
    ·rw[<- hr];exact hq
   ·rw[<- hH q e];exact hq
  exact hmono _ _ (h.shut q hq' p hp hl k hM r' hr' k' hk' hlk)
 ·by_cases e:q=r
  ·subst e;rcases hr with ⟨-,k,hk⟩ | ⟨hr,-⟩
   ·exact⟨k,layM_iff.2 (.inr ⟨rfl,hk⟩)⟩
   ·obtain⟨k,hk⟩:=h.some q (by rw[<- hr];exact hq);exact⟨k,hmono _ _ hk⟩
  ·obtain⟨k,hk⟩:=h.some q (by rw[<- hH q e];exact hq);exact⟨k,hmono _ _ hk⟩
theorem zt4(h:ClI G l n M H)(hr:zdh G (l.getD n it0)=some ((G.nk:Int)+r))(hk:∀ k,k<G.nk->zb2 G (zdA G (l.getD n it0)) (zlh (l.getD n it0)) k=true->M r k=true):ClI G l (n+1) M H:=by
 refine⟨h.snd,λi hi q hq k hk' hl=>?_,h.shut,h.some⟩;by_cases e:i=n
 ·subst e;rw[hr] at hq;simp only[Option.some.injEq] at hq;have:q=r:=by omega
  subst this;exact hk k hk' hl
 ·exact h.base i (by omega) q hq k hk' hl
structure PpI (G:Gm) (l:List It) (M:Nat->Nat->Bool) (H:Nat->Bool) (r:Nat) (done:List Nat):Prop where
 snd:∀ r k,M r k=true->Dm G l r k
 base:∀ i,i<l.length->∀ r:Nat,zdh G (l.getD i it0)=some ((G.nk:Int)+r)->∀ k,k<G.nk->zb2 G (zdA G (l.getD i it0)) (zlh (l.getD i it0)) k=true->M r k=true
 shut:∀ q,H q=false->∀ p,p<G.prods.length->(G.prods.getD p pd0).left=(q:Int)->(q=r->p ∈ done)->ShutP G M p q
 some:∀ q,H q=true->∃ k,M q k=true
 has:∃ k,M r k=true
theorem zpq(h:ClI G l l.length M H)(hr:H r=true)(hH:∀ q,q≠r->H' q=H q)(hr':H' r=false):PpI G l M H' r []:=by
 refine⟨h.snd,h.base,λq hq p hp hl hd=>?_,λq hq=>?_,h.some r hr⟩
 ·by_cases e:q=r
  ·exact absurd (hd e) (by simp)
  ·exact h.shut q (by rw[<- hH q e];exact hq) p hp hl
 ·by_cases e:q=r
  ·rw[e,hr'] at hq;cases hq
  ·exact h.some q (by rw[<- hH q e];exact hq)
theorem zvx(h:PpI G l M H r done)(hd:∀ p,p<G.prods.length->(G.prods.getD p pd0).left=(r:Int)->p ∈ done):ClI G l l.length M H :=
 ⟨h.snd,h.base,λq hq p hp hl=>h.shut q hq p hp hl (λe=>hd p hp (by rw[<- e];exact hl)),h.some⟩
noncomputable def zuV(G:Gm)(M:Nat->Nat->Bool)(p r:Nat):Nat->Bool:=zb2 G (zdA G ((p:Int),0,0)) (M r)
theorem dm_ask(hG:GOk G)(h:PpI G l M H r done)(hp:p<G.prods.length)(hl:(G.prods.getD p pd0).left=(r:Int))(hr:zdh G ((p:Int),0,0)=some ((G.nk:Int)+r')):∀ k,zuV G M p r k=true->Dm G l r' k:=λk hk=>by
 have hrow:∀ x,x ∈ zdA G ((p:Int),0,0)->0<=x:=λx hx=>by
  have:=zbe hG (p:=(p:Int)) (by omega) (by omega) x (List.mem_of_mem_drop hx);omega
 rcases lookB_iff.1 hk with hb | ⟨he,hm⟩
 ·obtain⟨k0,h0⟩:=h.has;exact .step r k0 (h.snd r k0 h0) p hp hl r' hr k (lookB_iff.2 (.inl hb)) (zjn hG hrow hb)
 ·have hd:=h.snd r k hm;exact .step r k hd p hp hl r' hr k (lookB_iff.2 (.inr ⟨he,decide_eq_true rfl⟩)) (zlJ hd)
theorem zvw(h:PpI G l M H r done)(hr:zdh G ((p:Int),0,0)=some ((G.nk:Int)+r'))(hs:∀ k,zuV G M p r k=true->Dm G l r' k)
 (hH:∀ q,q≠r'->H' q=H q) (hc:(H' r'=true/\∃ k,zuV G M p r k=true)\/(H' r'=H r'/\∀ k,zuV G M p r k=true->M r' k=true)):PpI G l (zce M r' (zuV G M p r)) H' r (done ++ [p]):=by
 have hmono:∀ q k,M q k=true->zce M r' (zuV G M p r) q k=true:=λq k hk=>layM_iff.2 (.inl hk);have hback:∀ q,H' q=false->H q=false/\∀ k,zce M r' (zuV G M p r) q k=true->M q k=true:=λq hq=>by
  by_cases e:q=r'
  ·subst e;rcases hc with ⟨hc,-⟩ | ⟨hc,hn⟩
   ·rw[hc] at hq;cases hq
   ·refine⟨by rw[<- hc];exact hq,λk hk=>?_⟩;rcases layM_iff.1 hk with hk | ⟨-,hk⟩
    ·exact hk
    ·exact hn k hk
  ·refine⟨by rw[<- hH q e];exact hq,λk hk=>?_⟩;rcases layM_iff.1 hk with hk | ⟨hk,-⟩
   ·exact hk
   ·exact absurd hk e
 refine⟨λq k hk=>?_,λi hi q hq k hk hl=>hmono _ _ (h.base i hi q hq k hk hl),λq hq p' hp' hl' hd k hk r1 hr1 k1 hk1 hlk=>?_,λq hq=>?_,?_⟩
 ·rcases layM_iff.1 hk with hk2 | ⟨rfl,hk2⟩
  ·exact h.snd q k hk2
  ·exact hs k hk2
 ·obtain⟨hq0,hqk⟩:=hback q hq;have hk0:=hqk k hk;by_cases hn:q=r/\p' ∉ done
  ·have hpp:p'=p:=by
    have:=hd hn.1;rw[List.mem_append,List.mem_singleton] at this;exact this.resolve_left hn.2
   subst hpp;have e1:r1=r':=by
    have h1:zdh G ((p':Int),0,(k:Int))=zdh G ((p':Int),0,0):=rfl;rw[h1,hr] at hr1;simp only[Option.some.injEq] at hr1;omega
   subst e1;refine layM_iff.2 (.inr ⟨rfl,lookB_iff.2 ?_⟩);rcases lookB_iff.1 hlk with hb | ⟨he,ho⟩
   ·exact .inl hb
   ·have:k=k1:=by have:=of_decide_eq_true ho;simp only at this;omega
    subst this;exact .inr ⟨he,by rw[<- hn.1];exact hk0⟩
  ·exact hmono _ _ (h.shut q hq0 p' hp' hl' (λe=>by
    have:=hd e
    exact Classical.byContradiction λh'=>hn ⟨e,h'⟩) k hk0 r1 hr1 k1 hk1 hlk)
 ·by_cases e:q=r'
  ·subst e;rcases hc with ⟨-,k,hk⟩ | ⟨hc,-⟩
   ·exact⟨k,layM_iff.2 (.inr ⟨rfl,hk⟩)⟩
   ·obtain⟨k,hk⟩:=h.some q (by rw[<- hc];exact hq);exact⟨k,hmono _ _ hk⟩
  ·obtain⟨k,hk⟩:=h.some q (by rw[<- hH q e];exact hq);exact⟨k,hmono _ _ hk⟩
 ·obtain⟨k,hk⟩:=h.has;exact⟨k,hmono _ _ hk⟩
theorem zsm(h:PpI G l M H r done)(hr:∀ r':Nat,zdh G ((p:Int),0,0)≠some ((G.nk:Int)+r')):PpI G l M H r (done ++ [p]):=by
 refine⟨h.snd,h.base,λq hq p' hp' hl' hd=>?_,h.some,h.has⟩;by_cases hn:q=r/\p' ∉ done
 ·have hpp:p'=p:=by
   have:=hd hn.1;rw[List.mem_append,List.mem_singleton] at this;exact this.resolve_left hn.2
  subst hpp;exact λk _ r1 hr1=>absurd hr1 (hr r1)
 ·exact h.shut q hq p' hp' hl' (λe=>by
   have:=hd e
   exact Classical.byContradiction λh'=>hn ⟨e,h'⟩)
theorem zwO(h:ClI G l l.length M H)(hH:∀ r,H r=false):M r k=true↔Dm G l r k:=by
 refine⟨h.snd r k,λhd=>?_⟩
 induction hd with
 | base x hx r hr k hk hn =>
   obtain⟨i,hi,rfl⟩:=zsT.1 hx;have e:l.getD i it0=l[i]:=by rw[zsE,zsF hi];rfl
   exact h.base i hi r (by rw[e];exact hr) k hn (by rw[e];exact hk)
 | step r k hd p hp hl r' hr k' hk hn ih=>exact h.shut r (hH r) p hp hl k ih r' hr k' hn hk
def zeo(G:Gm)(ct:Nat->Nat):Nat->Nat
 | 0=>0
 | n+1=>zeo G ct n+ct (G.prods.getD n pd0).left.toNat
theorem zm0{G:Gm}{ct ct':Nat->Nat}{r m:Nat}(hm:ct' r=ct r+m)(ho:∀ q,q≠r->ct' q=ct q):∀ n,zeo G ct' n=zeo G ct n+m * ((List.range n).filter (λp=>decide ((G.prods.getD p pd0).left.toNat=r))).length
 | 0=>by simp[zeo]
 | n+1=>by
   have ih:=zm0 (G:=G) hm ho n;unfold zeo;rw[List.range_succ,List.filter_append,zsI,ih];by_cases e:(G.prods.getD n pd0).left.toNat=r
   ·rw[e,hm];have:((List.filter (λp=>decide ((G.prods.getD p pd0).left.toNat=r)) [n])).length=1:=by
     rw[List.filter_cons,if_pos (decide_eq_true e)];rfl
    rw[this,Nat.mul_add,Nat.mul_one];omega
   ·have h1:((List.filter (λp=>decide ((G.prods.getD p pd0).left.toNat=r)) [n])).length=0:=by
     rw[List.filter_cons,if_neg (by rw[decide_eq_true_eq];exact e)];rfl
    rw[h1,ho _ e,Nat.add_zero];omega
theorem zqW{G:Gm}{ct:Nat->Nat}{c:Nat}(h:∀ q,ct q<=c):∀ n,zeo G ct n<=n * c
 | 0=>by simp[zeo]
 | n+1=>by
   have ih:=zqW (G:=G) h n;have:=h (G.prods.getD n pd0).left.toNat;unfold zeo;rw[Nat.succ_mul];omega
def mkI(G:Gm)(M:Nat->Nat->Bool)(nk:Nat)(n:Nat):List It:=(List.range n).flatMap λp=>((List.range nk).filter λk=>M (G.prods.getD p pd0).left.toNat k).map λ(k:Nat)=>((p:Int),0,(k:Int))
theorem mem_mkI{nk:Nat}:x ∈ mkI G M nk n↔∃ p k:Nat,x=((p:Int),0,(k:Int))/\p<n/\k<nk/\M (G.prods.getD p pd0).left.toNat k=true:=by
 unfold mkI;rw[List.mem_flatMap];constructor
 ·rintro⟨p,hp,hx⟩;rw[List.mem_range] at hp;obtain⟨k,hk,rfl⟩:=List.mem_map.1 hx;rw[List.mem_filter,List.mem_range] at hk;exact⟨p,k,rfl,hp,hk.1,hk.2⟩
 ·rintro⟨p,k,rfl,hp,hk,hm⟩;exact⟨p,by simpa using hp,List.mem_map.2 ⟨k,by rw[List.mem_filter,List.mem_range];exact⟨hk,hm⟩,rfl⟩⟩
theorem zse(n:Nat):(List.range n).Pairwise (· < ·):=List.pairwise_lt_range
theorem zuo{G:Gm}{M:Nat->Nat->Bool}{nk:Nat}:∀ n,UpI (mkI G M nk n)
 | 0=>by simp[mkI,UpI]
 | n+1=>by
   have ih:=zuo (G:=G) (M:=M) (nk:=nk) n;have e:mkI G M nk (n+1)=mkI G M nk n ++ ((List.range nk).filter λk=>M (G.prods.getD n pd0).left.toNat k).map λ(k:Nat)=>((n:Int),0,(k:Int)):=by
    unfold mkI;rw[List.range_succ,List.flatMap_append];simp
   rw[e];refine List.pairwise_append.2 ⟨ih,?_,λa ha b hb=>?_⟩
   ·rw[List.pairwise_map];refine((zse nk).filter _).imp (fun {a b} (h:a<b)=>?_);exact .inr ⟨rfl,.inr ⟨rfl,by show (a:Int)<(b:Int);omega⟩⟩
   ·obtain⟨p,k,rfl,hp,-,-⟩:=mem_mkI.1 ha;obtain⟨k',-,rfl⟩:=List.mem_map.1 hb;exact .inl (by show (p:Int)<(n:Int);omega)
theorem zp4{G:Gm}{M:Nat->Nat->Bool}{nk:Nat}{ct:Nat->Nat}(h:∀ q,ct q=((List.range nk).filter λk=>M q k).length):∀ n,(mkI G M nk n).length=zeo G ct n
 | 0=>by simp[mkI,zeo]
 | n+1=>by
   have ih:=zp4 (G:=G) h n;have e:mkI G M nk (n+1)=mkI G M nk n ++ ((List.range nk).filter λk=>M (G.prods.getD n pd0).left.toNat k).map λ(k:Nat)=>((n:Int),0,(k:Int)):=by
    unfold mkI;rw[List.range_succ,List.flatMap_append];simp
   rw[e,zsI,List.length_map,ih,show zeo G ct (n+1)=zeo G ct n+ct (G.prods.getD n pd0).left.toNat from rfl,h]
theorem mkI_cl(hG:GOk G)(hs:∀ r k,M r k=true->Dm G l r k):∀ x,x ∈ mkI G M G.nk G.prods.length->x ∈ clL G l:=λx hx=>by
 obtain⟨p,k,rfl,hp,hk,hm⟩:=mem_mkI.1 hx;have:=(hG.pl _ (zan hp)).1;exact(zcE hG).2 (.inr ⟨p,k,rfl,hp,hk,_,by omega,hs _ _ hm⟩)
theorem zvW(hG:GOk G)(hs:∀ r k,M r k=true->Dm G l r k):(mkI G M G.nk G.prods.length).length<=(clL G l).length:=zfC (zuo _) (mkI_cl hG hs)
theorem zs6(hs:∀ r k,M r k=true↔Dm G l r k):newI G l=mkI G M G.nk G.prods.length:=by
 unfold newI mkI
 congr 1
 funext p
 congr 2
 funext k;rw[Bool.eq_iff_iff,zqM];exact(hs _ _).symm
def GmB(B:Nat)(w:World)(gb:Nat)(G:Gm):Prop:=∃ ka kc pa pc ra rc qa qc wa wc,gb<B/\w.heap[gb]? = some (.cells #[.slice ka G.kinds.length kc,.slice pa G.precs.length pc,.slice ra G.rules.length rc,.slice qa G.prods.length qc,.int .i64 G.start,.slice wa 1 wc] 101 (0,0))/\GIn B w G ka pa ra qa/\NRow B w wa [(G.kinds.length:Int)+G.start]/\1<=wc
theorem zaX{gb:Nat}(hb:Below B w w')(h:GmB B w gb G):GmB B w' gb G:=by
 obtain⟨ka,kc,pa,pc,ra,rc,qa,qc,wa,wc,hlt,hbox,hin,hw,hwc⟩:=h;exact⟨ka,kc,pa,pc,ra,rc,qa,qc,wa,wc,hlt,(hb.block _ hlt).trans hbox,zem hb hin,zaS hb hw,hwc⟩
theorem zac{b:Nat}{cs:Array Value}{t:TypeId}{f:Nat × Nat}(h:w.heap[b]? = some (.cells cs t f))(j:Nat)(hv:cs[j]? = some v):w.cell? ⟨b,j,none⟩=some v:=by
 unfold World.cell?;rw[h];exact hv
theorem zdl{P:Program}{f:FuncId}{args:Array Value}(h:Calls P f args (w.drewN n) λe w'=>e=.returned v/\w.drewN n=w'):Calls P f args (w.drewN n) λe w''=>e=.returned v/\∃ m,w''=w.drewN m :=
 Calls.quiet_of_same (h.mono λ_ _ ⟨a,b⟩=>⟨a,b.symm⟩)
def zcy(B:Nat)(w:World)(a:Option Addr)(l:List It):Prop :=
 l=[]\/∃ b off,a=some ⟨b,off,none⟩/\b<B/\∀ j,j<l.length->w.cell? ⟨b,off+j * 3,none⟩=some (.int .i64 (l.getD j it0).1)/\w.cell? ⟨b,off+j * 3+1,none⟩=some (.int .i64 (l.getD j it0).2.1)/\w.cell? ⟨b,off+j * 3+2,none⟩=some (.int .i64 (l.getD j it0).2.2)
theorem zaw(hb:Below B w w')(h:zcy B w a l):zcy B w' a l:=by
 rcases h with rfl | ⟨b,off,rfl,hlt,hc⟩
 ·exact .inl rfl
 ·exact .inr ⟨b,off,rfl,hlt,λj hj=>⟨(hb.cell hlt).trans (hc j hj).1,(hb.cell hlt).trans (hc j hj).2.1,(hb.cell hlt).trans (hc j hj).2.2⟩⟩
theorem zby(h:zcy B w a l)(hk:k<l.length):∃ b off,a=some ⟨b,off,none⟩/\b<B/\w.cell? ⟨b,off+k * 3,none⟩=some (.int .i64 (l.getD k it0).1)/\w.cell? ⟨b,off+k * 3+1,none⟩=some (.int .i64 (l.getD k it0).2.1)/\w.cell? ⟨b,off+k * 3+2,none⟩=some (.int .i64 (l.getD k it0).2.2):=by
 rcases h with rfl | ⟨b,off,h1,h2,h3⟩
 ·simp at hk
 ·exact⟨b,off,h1,h2,h3 k hk⟩
theorem zbR{i:Nat}(h:i<l.length):l.getD i it0 ∈ l:=by
 rw[zsE,zsF h];exact List.getElem_mem h
theorem zk8(B gb:Nat)(G:Gm)(hG:GOk G)(p:Nat)(hp:p<=G.prods.length)(w:World)(h:GmB B w gb G) :
 ∃ a c,NRow B w a (zas G p)/\(zas G p).length<=c/\∀ n,Calls Tryz.prog 82 #[.pointer (some ⟨gb,0,none⟩),.int .i64 (p:Int)] (w.drewN n) λe w'=>e=.returned (.slice a (zas G p).length c)/\w.drewN n=w':=by
 obtain⟨ka,kc,pa,pc,ra,rc,qa,qc,wa,wc,hlt,hbox,hin,hw,hwc⟩:=h;have c3:=zac hbox 3 rfl;have c5:=zac hbox 5 rfl;have hps:=hG.ps;have Hin:=zaa hin;have Hw:=zaa hw;clear hin hw hbox;by_cases e:p=G.prods.length
 ·subst e;rw[zdI];refine⟨wa,wc,uh Hw,hwc,λn=>?_⟩;go_enter Tryz.func82,Tryz.ntmps82;go_wp2;go_ret;exact⟨rfl,rfl⟩
 ·have hlt':p<G.prods.length:=by omega
  rw[zeK hlt'];obtain⟨b,off,rfl,hbB,rr,rrc,x3,x4,x5,x6,n6,c6,hrc,hrr,hac,q0,q1,q2,q3,q4,q5,q6⟩:=zmk (uh Hin).prods hlt';have hne:¬ (p:Int)=(G.prods.length:Int):=by omega
  generalize G.prods.getD p pd0=P at *;refine⟨rr,rrc,hrr,hrc,λn=>?_⟩;go_enter Tryz.func82,Tryz.ntmps82;go_wp2;go_ret;exact⟨rfl,rfl⟩
theorem zjP(B gb:Nat)(G:Gm)(hG:GOk G)(p:Nat)(hp:p<=G.prods.length)(w:World)(h:GmB B w gb G) :
 Calls Tryz.prog 82 #[.pointer (some ⟨gb,0,none⟩),.int .i64 (p:Int)] w λe w'=>∃ a c,e=.returned (.slice a (zas G p).length c)/\NRow B w a (zas G p)/\(zas G p).length<=c/\w=w':=by
 obtain⟨a,c,h1,h2,h3⟩:=zk8 B gb G hG p hp w h;refine(h3 0).mono ?_;rintro e w' ⟨rfl,rfl⟩;exact⟨a,c,rfl,h1,h2,rfl⟩
theorem zjN(B gb:Nat)(G:Gm)(hG:GOk G)(x:Int)(hx:0<=x/\x<=281474976710656)(w:World)(h:GmB B w gb G) :
 Calls Tryz.prog 115 #[.pointer (some ⟨gb,0,none⟩),.int .i64 x] w λe w'=>e=.returned (.tuple #[.int .i64 (if (G.kinds.length:Int)<=x then x - G.kinds.length else 0),.bool (decide ((G.kinds.length:Int)<=x))])/\w=w':=by
 obtain⟨ka,kc,pa,pc,ra,rc,qa,qc,wa,wc,hlt,hbox,hin,hw,hwc⟩:=h;have c0:=zac hbox 0 rfl;have hk3:=hG.k3;unfold Gm.nk at hk3;clear hin hw hbox;generalize G.kinds.length=nk at *;by_cases h:(nk:Int)<=x
 ·have h':¬ x<(nk:Int):=by omega
  have hw:IntKind.i64.wrap (x - nk)=x - nk:=by rw[IntKind.wrap_i64];omega
  rw[if_pos h,decide_eq_true h];go_enter Tryz.func115,Tryz.ntmps115;go_wp2;refine bodyPost_ret (v:=.tuple #[.int .i64 (x - nk),.bool true]) ?zz9 rfl ⟨rfl,rfl⟩
  case zz9=>simp[results,Tryz.results115,go_sem]
 ·have h':x<(nk:Int):=by omega
  rw[if_neg h,decide_eq_false h];go_enter Tryz.func115,Tryz.ntmps115;go_wp2;refine bodyPost_ret (v:=.tuple #[.int .i64 0,.bool false]) ?zz9 rfl ⟨rfl,rfl⟩
  case zz9=>simp[results,Tryz.results115,go_sem]
def atR(G:Gm)(x:It):Option Nat:=match zdh G x with
 | none=>none
 | some s=>if (G.kinds.length:Int)<=s then some (s - G.kinds.length).toNat else none
theorem atR_iff:atR G x=some r↔zdh G x=some ((G.nk:Int)+r):=by
 unfold atR Gm.nk
 cases h:zdh G x with
 | none=>simp
 | some s =>
   simp only[Option.some.injEq];by_cases hs:(G.kinds.length:Int)<=s
   ·rw[if_pos hs,Option.some.injEq];omega
   ·rw[if_neg hs];constructor
    ·intro e;cases e
    ·intro e;omega
def zbm(G:Gm)(k:Nat):Prop:=∀ i,i<k->zhA G.kinds.length G.rules.length (G.prods.getD i pd0)=true
instance (G:Gm) (k:Nat):Decidable (zbm G k):=by unfold zbm;infer_instance
def zbK(G:Gm):Bool:=decide (zg4 G.kinds=true/\G.precs.length=G.kinds.length/\zcj G.precs=true/\zex G.rules=true/\0<=G.start/\G.start<G.rules.length/\G.prods.length<=4096/\zbm G G.prods.length)
def zq8(G:Gm):Int:=if zbK G then 0 else 130
theorem zb8(h:zbK G=true):GOk G:=by
 have h:=of_decide_eq_true h;have hk:=of_decide_eq_true h.1;have hn:=of_decide_eq_true h.2.2.2.1;have hp:∀ p,p ∈ G.prods->zhA G.kinds.length G.rules.length p=true:=λp hp=>by
  obtain⟨i,hi,rfl⟩:=zfV hp;exact h.2.2.2.2.2.2.2 i hi
 refine⟨hk.1,hk.2.1,hn.1,hn.2.1,h.2.2.2.2.1,h.2.2.2.2.2.1,h.2.2.2.2.2.2.1,λp hq=>?_,λp hq=>?_,λp hq x hx=>?_⟩
 ·have:=of_decide_eq_true (hp p hq);exact⟨this.1,this.2.1⟩
 ·exact(of_decide_eq_true (hp p hq)).2.2.1
 ·obtain⟨i,hi,rfl⟩:=List.getElem_of_mem hx;have:=(of_decide_eq_true (hp p hq)).2.2.2.2.1 i hi;rw[zsE,zsF hi] at this;exact this
noncomputable abbrev atF (G:Gm):Nat->Bool:=zxB G (λ_:Pd=>true)
inductive Flw (G:Gm):Nat->Nat->Prop
 | start:Flw G G.start.toNat 0
 | first (p:Pd) (hp:p ∈ G.prods) (hr:atF G p.left.toNat=true) (i:Nat) (hi:i<p.right.length) (hx:(G.nk:Int)<=p.right.getD i 0) (k:Nat) (hk:k<G.nk) (h:zet G.nk (zat G) (zdy G) (p.right.drop (i+1)) k=true):Flw G (p.right.getD i 0 - G.nk).toNat k
 | behind (p:Pd) (hp:p ∈ G.prods) (hr:atF G p.left.toNat=true) (i:Nat) (hi:i<p.right.length) (hx:(G.nk:Int)<=p.right.getD i 0) (he:zar G.nk (zat G) (p.right.drop (i+1))=true) (k:Nat) (h:Flw G p.left.toNat k):Flw G (p.right.getD i 0 - G.nk).toNat k
open Classical in
noncomputable def zqx(G:Gm):Nat->Nat->Bool:=λr k=>decide (Flw G r k)
theorem zqw(G:Gm)(r k:Nat):zqx G r k=true↔Flw G r k:=by unfold zqx;simp
theorem flw_lt(hG:GOk G)(h:Flw G r k):k<G.nk:=by
 induction h with
 | start=>have:=hG.k2;omega
 | first p hp hr i hi hx k hk h=>exact hk
 | behind p hp hr i hi hx he k h ih=>exact ih
end Go.Proofs.YtieciibnajeibaaGreatDoor
namespace Go.Proofs.YtieciibnajeibaaGreatDoor
open Go.RowKit
def zmj(row:List Int)(j:Nat):List Int:=row.take j ++ row.drop (j+1)
inductive Mks (G:Gm):Nat->Nat->Prop
 | one (p:Pd) (hp:p ∈ G.prods) (j:Nat) (hj:j<p.right.length) (hx:(G.nk:Int)<=p.right.getD j 0) (he:zar G.nk (zat G) (zmj p.right j)=true):Mks G p.left.toNat (p.right.getD j 0 - G.nk).toNat
 | trans (a b c:Nat) (h1:Mks G a b) (h2:Mks G b c):Mks G a c
open Classical in
noncomputable def ztc(G:Gm):Nat->Nat->Bool:=λr k=>decide (Mks G r k)
theorem zvV(G:Gm)(r k:Nat):ztc G r k=true↔Mks G r k:=by unfold ztc;simp
end Go.Proofs.YtieciibnajeibaaGreatDoor
namespace Go.Proofs.YtieciibnajeibaaGreatDoor
open Go.RowKit
variable{B b fuel i k n nk t:Nat}{G:Gm}{P:Program}{Q:Exit->Act->World->Prop}{S:World->Prop}{a:Act}{a0 a1 a2 a3 a4 a5 v:Value}{c:Array Value}{f:Nat->Value}{ka pa qa ra:Option Addr}{listed:Array Bool}{md:Region.Mode}{null:Nat->Bool}{o oi:Oper}{ops:Array Oper}{w w':World}
theorem zbN{dst:Option Nat}(hi:ops[i]? = some oi)(hd:oi.dst=dst)
 (hs:Region.noSelect ops=true) (hf:Region.free md ops listed i=true) (hr:(Region.ready md ops listed).contains i=true)
 (hQ:∀ c a w,Q (.panic c) (a.put dst v) w->Q (.panic c) a w) (hy:YieldsIf P ops S oi v a) (hS:S w)
 (h:wpAnyH P md ops Q S fuel (listed.setIfInBounds i true) (a.put dst v) w):wpAnyH P md ops Q S (fuel+1) listed a w:=by
 subst hd;exact wpAnyH_take hi hs hf hr hQ hy hS h
theorem zad(i d:Nat)(hi:ops[i]? = some oi)(hd:oi.dst=some d)(hS:S w)(hy:∀ w,S w->(execOp a.eval oi).run P w=.ok (.value v) w)
 (h:wpAnyH P md ops Q S fuel (listed.setIfInBounds i true) (a.put (some d) v) w) (hs:Region.noSelect ops=true:=by kernel_rfl) (hf:Region.free md ops listed i=true:=by kernel_rfl) (hr:(Region.ready md ops listed).contains i=true:=by kernel_rfl)
 (hQ:∀ c a w,Q (.panic c) (a.put (some d) v) w->Q (.panic c) a w:=by exact λ_ _ _ h=>h) (hg:Region.wanted oi (yielded ops a.tmps)=true:=by rfl):wpAnyH P md ops Q S (fuel+1) listed a w :=
 zbN hi hd hs hf hr hQ (.inl ⟨hg,hy⟩) hS h
theorem zbH(i d:Nat)(hi:ops[i]? = some oi)(hd:oi.dst=some d)(hS:S w)
 (h:wpAnyH P md ops Q S fuel (listed.setIfInBounds i true) (a.put (some d) undef) w) (hs:Region.noSelect ops=true:=by kernel_rfl) (hf:Region.free md ops listed i=true:=by kernel_rfl) (hr:(Region.ready md ops listed).contains i=true:=by kernel_rfl)
 (hQ:∀ c a w,Q (.panic c) (a.put (some d) undef) w->Q (.panic c) a w:=by exact λ_ _ _ h=>h) (hg:Region.wanted oi (yielded ops a.tmps)=false:=by rfl):wpAnyH P md ops Q S (fuel+1) listed a w :=
 zbN hi hd hs hf hr hQ (.inr ⟨hg,rfl⟩) hS h
theorem zai(i:Nat)(ho:ops[i]? = some o)(h:∀ K':Act->World->Prop,Shut (∀ a w,S w->(S w->wpAnyH P md ops Q S fuel (listed.setIfInBounds i true) a w)->K' a w)->if Region.wanted o (yielded ops a.tmps)=true then Oper.wp P o a w K' Q else K' (a.put o.dst undef) w)(hr:Region.ready md ops listed=[i]:=by kernel_rfl):wpAnyH P md ops Q S (fuel+1) listed a w :=
 wpAnyH_ready hr (by simp) (AllReadyH.cons ho h AllReadyH.nil)
theorem zcV{o':Oper}(i j:Nat)(ho:ops[i]? = some o)(ho':ops[j]? = some o')(h:∀ K':Act->World->Prop,Shut (∀ a w,S w->(S w->wpAnyH P md ops Q S fuel (listed.setIfInBounds i true) a w)->K' a w)->if Region.wanted o (yielded ops a.tmps)=true then Oper.wp P o a w K' Q else K' (a.put o.dst undef) w)(h':∀ K':Act->World->Prop,Shut (∀ a w,S w->(S w->wpAnyH P md ops Q S fuel (listed.setIfInBounds j true) a w)->K' a w)->if Region.wanted o' (yielded ops a.tmps)=true then Oper.wp P o' a w K' Q else K' (a.put o'.dst undef) w)(hr:Region.ready md ops listed=[i,j]:=by kernel_rfl):wpAnyH P md ops Q S (fuel+1) listed a w :=
 wpAnyH_ready hr (by simp) (AllReadyH.cons ho h (AllReadyH.cons ho' h' AllReadyH.nil))
theorem zmb(xb xo n c q:Nat)(h:q<=c)(w:World):(Instr.slice 50 (.slice (some ⟨xb,xo,none⟩) n c) none (some (.int .i64 (q:Int))) none).run Tryz.prog w=.ok (.slice (some ⟨xb,xo,none⟩) q c) w:=by
 rw[run_slice_h w 50 (some ⟨xb,xo,none⟩) n c Tryz.underlying50 .i64 (q:Int) (by omega) (by omega)];simp[go_sem,Addr.add]
theorem zjz(l:List Int):∀ u ∈ zao l,u.oneCell'=true:=by
 intro u hu;obtain⟨x,-,rfl⟩:=List.mem_map.1 hu;rfl
theorem zdH{K:Act->World->Prop}{E:Prop}(hgd:o.guard=none)(s x:Operand)(t:TypeId)
 (ho:o.op=.call { callee:=.builtin .append,args:=#[s,x],argTypes:=#[t,t] })
 (base:Nat) (e:TypeId) (i:TypeInfo) (z:Value) (size bytes:Nat) (ht:P.underlying t=some (.slice e)) (hi:P.info? e=some i) (hz:i.zero=some z)
 (hsize:i.size=size) (hby:i.bytes=bytes) (hzs:z.cells.size=size) (hsz:0<size)
 (v:Value) (n:Nat) (xs:List Value) (hs:a.eval s=v) (hown:w.ownsRow base e size v n xs)
 (ad:Addr) (m c:Nat) (news:List Value) (hx:a.eval x=.slice (some ad) m c) (hl:news.length=m * size) (hnews:∀ j u,news[j]? = some u->w.cell? (ad.add j)=some u) (h1:∀ u ∈ news,u.oneCell'=true)
 (h63:n+m<=maxLen) (hbytes:(n+m) * bytes<=140737488355328) (hbase:base<=w.heap.size)
 (h:∀ v' w',w'.ownsRow base e size v' (n+m) (xs ++ news)->w.grownBy w' v.ownBlock->(v'=.slice none 0 0↔v=.slice none 0 0/\m=0)->K (a.put o.dst v') w') :
 if Region.wanted o (yielded ops a.tmps)=true then Oper.wp P o a w K Q else E:=by
 have hw:Region.wanted o (yielded ops a.tmps)=true:=by simp[Region.wanted,hgd]
 rw[if_pos hw];exact wp_append_own w s x t ho base e i z size bytes ht hi hz hsize hby hzs hsz v n xs hs hown ad m c news hx hl hnews h1 h63 hbytes hbase h
theorem zeJ(h:w.rowIs b t n f)(hb:Below w.heap.size w w'):w'.rowIs b t n f:=h.of_block (hb.block _ h.lt)
theorem zv4(kc pc rc qc:Nat){w1:World}(hB:B<=w.heap.size)(hin:GIn B w G ka pa ra qa)(hw:w1=(w.alloc (.cells #[.slice ka G.kinds.length kc,.slice pa G.precs.length pc,.slice ra G.rules.length rc,.slice qa G.prods.length qc,.int .i64 G.start] 26)).alloc (.cells #[.slice none 0 0,.slice none 0 0,.slice none 0 0,.slice none 0 0,.slice none 0 0,.slice none 0 0] 103)) :
 GSt B w1 G ka kc pa pc ra rc qa qc w.heap.size/\Below w.heap.size w w1/\w1.heap.size=w.heap.size+2/\w1.heap[w.heap.size+1]? = some (.cells #[.slice none 0 0,.slice none 0 0,.slice none 0 0,.slice none 0 0,.slice none 0 0,.slice none 0 0] 103):=by
 have hst:=zeO (kc:=kc) (pc:=pc) (rc:=rc) (qc:=qc) hB hin 26;have h1:(w.alloc (.cells #[.slice ka G.kinds.length kc,.slice pa G.precs.length pc,.slice ra G.rules.length rc,.slice qa G.prods.length qc,.int .i64 G.start] 26)).heap.size=w.heap.size+1:=by simp
 subst hw;refine⟨zb6 ((zsY _ _).alloc (by omega) _) hB hst,((zsY _ _).alloc (zsG _) _).alloc (by omega) _,by simp,?_⟩;rw[<- h1];exact zsH _ _
theorem zjK{t:TypeId}(h:w.heap[b]? = some (.cells #[a0,a1,a2,a3,a4,a5] t)):w.cell? ⟨b,0,none⟩=some a0/\w.cell? ⟨b,1,none⟩=some a1/\w.cell? ⟨b,2,none⟩=some a2/\w.cell? ⟨b,3,none⟩=some a3/\w.cell? ⟨b,4,none⟩=some a4/\w.cell? ⟨b,5,none⟩=some a5/\w.frozen? ⟨b,0,none⟩=false/\w.frozen? ⟨b,1,none⟩=false/\w.frozen? ⟨b,2,none⟩=false/\w.frozen? ⟨b,3,none⟩=false/\w.frozen? ⟨b,4,none⟩=false/\w.frozen? ⟨b,5,none⟩=false:=by
 refine⟨?_,?_,?_,?_,?_,?_,?_,?_,?_,?_,?_,?_⟩ <;> (first | (unfold World.cell?;rw[h];rfl) | (unfold World.frozen?;rw[h];rfl))
theorem zfF{t:TypeId}(h:w.heap[b]? = some (.cells c t))(v:Value):(w.setCell ⟨b,i,none⟩ v).heap[b]? = some (.cells (c.setIfInBounds i v) t):=by
 simp[World.setCell,Array.getElem?_modify,h]
theorem set6{t:TypeId}(h:w.heap[b]? = some (.cells #[a0,a1,a2,a3,a4,a5] t))(v0 v1 v2 v3 v4 v5:Value) :
 ((((((w.setCell ⟨b,0,none⟩ v0).setCell ⟨b,1,none⟩ v1).setCell ⟨b,2,none⟩ v2).setCell ⟨b,3,none⟩ v3).setCell ⟨b,4,none⟩ v4).setCell ⟨b,5,none⟩ v5).heap[b]? = some (.cells #[v0,v1,v2,v3,v4,v5] t)/\Fr (· = b) w ((((((w.setCell ⟨b,0,none⟩ v0).setCell ⟨b,1,none⟩ v1).setCell ⟨b,2,none⟩ v2).setCell ⟨b,3,none⟩ v3).setCell ⟨b,4,none⟩ v4).setCell ⟨b,5,none⟩ v5) :=
 ⟨zfF (zfF (zfF (zfF (zfF (zfF h v0) v1) v2) v3) v4) v5,zaD (zaD (zaD (zaD (zaD (zaD (zax (· = b) w) (by rfl) _) (by rfl) _) (by rfl) _) (by rfl) _) (by rfl) _) (by rfl) _⟩
theorem row_fr(h:w.rowIs b t n f)(hf:Fr (· = k) w w')(hne:b≠k):w'.rowIs b t n f:=h.of_block (hf.2.1 _ h.lt hne)
theorem zo7{e:Nat}(h:w.heap[b]? = some (.cells c t))(hr:w.rowIs k e n f)(hne:e≠t):k≠b:=by
 intro hk;subst hk;obtain⟨c',h',-⟩:=hr;rw[h] at h';simp at h';exact hne h'.2.symm
theorem zfT{t:TypeId}(h:w.heap[b]? = some (.cells #[a0,a1,a2,a3,a4] t)):w.cell? ⟨b,0,none⟩=some a0/\w.cell? ⟨b,1,none⟩=some a1/\w.cell? ⟨b,2,none⟩=some a2/\w.cell? ⟨b,3,none⟩=some a3/\w.cell? ⟨b,4,none⟩=some a4:=by
 refine⟨?_,?_,?_,?_,?_⟩ <;> (unfold World.cell?;rw[h];rfl)
theorem zuX(B:Nat)(w:World):zhx B w ac0 (.int .i64 0) (.int .i64 0) (.string ⟨#[]⟩) (.slice none 0 0):=by
 unfold ac0 zhx;exact⟨rfl,rfl,rfl,none,0,[],rfl,by unfold zjx;rfl,.inl rfl⟩
theorem zxk(w:World)(o0 o1 o2 o3 o4 o5 o6:Obj):(((((((w.alloc o0).alloc o1).alloc o2).alloc o3).alloc o4).alloc o5).alloc o6).heap[w.heap.size]? = some o0/\(((((((w.alloc o0).alloc o1).alloc o2).alloc o3).alloc o4).alloc o5).alloc o6).heap[w.heap.size+1]? = some o1/\(((((((w.alloc o0).alloc o1).alloc o2).alloc o3).alloc o4).alloc o5).alloc o6).heap[w.heap.size+1+1]? = some o2/\(((((((w.alloc o0).alloc o1).alloc o2).alloc o3).alloc o4).alloc o5).alloc o6).heap[w.heap.size+1+1+1]? = some o3/\(((((((w.alloc o0).alloc o1).alloc o2).alloc o3).alloc o4).alloc o5).alloc o6).heap[w.heap.size+1+1+1+1]? = some o4/\(((((((w.alloc o0).alloc o1).alloc o2).alloc o3).alloc o4).alloc o5).alloc o6).heap[w.heap.size+1+1+1+1+1]? = some o5/\(((((((w.alloc o0).alloc o1).alloc o2).alloc o3).alloc o4).alloc o5).alloc o6).heap[w.heap.size+1+1+1+1+1+1]? = some o6/\(((((((w.alloc o0).alloc o1).alloc o2).alloc o3).alloc o4).alloc o5).alloc o6).heap.size=w.heap.size+1+1+1+1+1+1+1/\Below w.heap.size w (((((((w.alloc o0).alloc o1).alloc o2).alloc o3).alloc o4).alloc o5).alloc o6):=by
 have s1:(w.alloc o0).heap.size=w.heap.size+1:=by simp
 have s2:((w.alloc o0).alloc o1).heap.size=w.heap.size+1+1:=by simp
 have s3:(((w.alloc o0).alloc o1).alloc o2).heap.size=w.heap.size+1+1+1:=by simp
 have s4:((((w.alloc o0).alloc o1).alloc o2).alloc o3).heap.size=w.heap.size+1+1+1+1:=by simp
 have s5:(((((w.alloc o0).alloc o1).alloc o2).alloc o3).alloc o4).heap.size=w.heap.size+1+1+1+1+1:=by simp
 have s6:((((((w.alloc o0).alloc o1).alloc o2).alloc o3).alloc o4).alloc o5).heap.size=w.heap.size+1+1+1+1+1+1:=by simp
 have s7:(((((((w.alloc o0).alloc o1).alloc o2).alloc o3).alloc o4).alloc o5).alloc o6).heap.size=w.heap.size+1+1+1+1+1+1+1:=by simp
 have b0_1:(w.alloc o0).heap[w.heap.size]? = some o0:=by have h:=zsH w o0;exact h
 have b0_2:((w.alloc o0).alloc o1).heap[w.heap.size]? = some o0:=(zsZ _ _ _ (by rw[s1];omega)).trans b0_1;have b0_3:(((w.alloc o0).alloc o1).alloc o2).heap[w.heap.size]? = some o0:=(zsZ _ _ _ (by rw[s2];omega)).trans b0_2;have b0_4:((((w.alloc o0).alloc o1).alloc o2).alloc o3).heap[w.heap.size]? = some o0:=(zsZ _ _ _ (by rw[s3];omega)).trans b0_3;have b0_5:(((((w.alloc o0).alloc o1).alloc o2).alloc o3).alloc o4).heap[w.heap.size]? = some o0:=(zsZ _ _ _ (by rw[s4];omega)).trans b0_4;have b0_6:((((((w.alloc o0).alloc o1).alloc o2).alloc o3).alloc o4).alloc o5).heap[w.heap.size]? = some o0:=(zsZ _ _ _ (by rw[s5];omega)).trans b0_5;have b0_7:(((((((w.alloc o0).alloc o1).alloc o2).alloc o3).alloc o4).alloc o5).alloc o6).heap[w.heap.size]? = some o0:=(zsZ _ _ _ (by rw[s6];omega)).trans b0_6;have b1_2:((w.alloc o0).alloc o1).heap[w.heap.size+1]? = some o1:=by have h:=zsH (w.alloc o0) o1;rw[s1] at h;exact h
 have b1_3:(((w.alloc o0).alloc o1).alloc o2).heap[w.heap.size+1]? = some o1:=(zsZ _ _ _ (by rw[s2];omega)).trans b1_2;have b1_4:((((w.alloc o0).alloc o1).alloc o2).alloc o3).heap[w.heap.size+1]? = some o1:=(zsZ _ _ _ (by rw[s3];omega)).trans b1_3;have b1_5:(((((w.alloc o0).alloc o1).alloc o2).alloc o3).alloc o4).heap[w.heap.size+1]? = some o1:=(zsZ _ _ _ (by rw[s4];omega)).trans b1_4;have b1_6:((((((w.alloc o0).alloc o1).alloc o2).alloc o3).alloc o4).alloc o5).heap[w.heap.size+1]? = some o1:=(zsZ _ _ _ (by rw[s5];omega)).trans b1_5;have b1_7:(((((((w.alloc o0).alloc o1).alloc o2).alloc o3).alloc o4).alloc o5).alloc o6).heap[w.heap.size+1]? = some o1:=(zsZ _ _ _ (by rw[s6];omega)).trans b1_6;have b2_3:(((w.alloc o0).alloc o1).alloc o2).heap[w.heap.size+1+1]? = some o2:=by have h:=zsH ((w.alloc o0).alloc o1) o2;rw[s2] at h;exact h
 have b2_4:((((w.alloc o0).alloc o1).alloc o2).alloc o3).heap[w.heap.size+1+1]? = some o2:=(zsZ _ _ _ (by rw[s3];omega)).trans b2_3;have b2_5:(((((w.alloc o0).alloc o1).alloc o2).alloc o3).alloc o4).heap[w.heap.size+1+1]? = some o2:=(zsZ _ _ _ (by rw[s4];omega)).trans b2_4;have b2_6:((((((w.alloc o0).alloc o1).alloc o2).alloc o3).alloc o4).alloc o5).heap[w.heap.size+1+1]? = some o2:=(zsZ _ _ _ (by rw[s5];omega)).trans b2_5;have b2_7:(((((((w.alloc o0).alloc o1).alloc o2).alloc o3).alloc o4).alloc o5).alloc o6).heap[w.heap.size+1+1]? = some o2:=(zsZ _ _ _ (by rw[s6];omega)).trans b2_6;have b3_4:((((w.alloc o0).alloc o1).alloc o2).alloc o3).heap[w.heap.size+1+1+1]? = some o3:=by have h:=zsH (((w.alloc o0).alloc o1).alloc o2) o3;rw[s3] at h;exact h
 have b3_5:(((((w.alloc o0).alloc o1).alloc o2).alloc o3).alloc o4).heap[w.heap.size+1+1+1]? = some o3:=(zsZ _ _ _ (by rw[s4];omega)).trans b3_4;have b3_6:((((((w.alloc o0).alloc o1).alloc o2).alloc o3).alloc o4).alloc o5).heap[w.heap.size+1+1+1]? = some o3:=(zsZ _ _ _ (by rw[s5];omega)).trans b3_5;have b3_7:(((((((w.alloc o0).alloc o1).alloc o2).alloc o3).alloc o4).alloc o5).alloc o6).heap[w.heap.size+1+1+1]? = some o3:=(zsZ _ _ _ (by rw[s6];omega)).trans b3_6;have b4_5:(((((w.alloc o0).alloc o1).alloc o2).alloc o3).alloc o4).heap[w.heap.size+1+1+1+1]? = some o4:=by have h:=zsH ((((w.alloc o0).alloc o1).alloc o2).alloc o3) o4;rw[s4] at h;exact h
 have b4_6:((((((w.alloc o0).alloc o1).alloc o2).alloc o3).alloc o4).alloc o5).heap[w.heap.size+1+1+1+1]? = some o4:=(zsZ _ _ _ (by rw[s5];omega)).trans b4_5;have b4_7:(((((((w.alloc o0).alloc o1).alloc o2).alloc o3).alloc o4).alloc o5).alloc o6).heap[w.heap.size+1+1+1+1]? = some o4:=(zsZ _ _ _ (by rw[s6];omega)).trans b4_6;have b5_6:((((((w.alloc o0).alloc o1).alloc o2).alloc o3).alloc o4).alloc o5).heap[w.heap.size+1+1+1+1+1]? = some o5:=by have h:=zsH (((((w.alloc o0).alloc o1).alloc o2).alloc o3).alloc o4) o5;rw[s5] at h;exact h
 have b5_7:(((((((w.alloc o0).alloc o1).alloc o2).alloc o3).alloc o4).alloc o5).alloc o6).heap[w.heap.size+1+1+1+1+1]? = some o5:=(zsZ _ _ _ (by rw[s6];omega)).trans b5_6;have b6_7:(((((((w.alloc o0).alloc o1).alloc o2).alloc o3).alloc o4).alloc o5).alloc o6).heap[w.heap.size+1+1+1+1+1+1]? = some o6:=by have h:=zsH ((((((w.alloc o0).alloc o1).alloc o2).alloc o3).alloc o4).alloc o5) o6;rw[s6] at h;exact h
 exact⟨b0_7,b1_7,b2_7,b3_7,b4_7,b5_7,b6_7,s7,((((((((zsY _ _).alloc (by omega) _).alloc (by rw[s1];omega) _).alloc (by rw[s2];omega) _).alloc (by rw[s3];omega) _).alloc (by rw[s4];omega) _).alloc (by rw[s5];omega) _).alloc (by rw[s6];omega) _)⟩
theorem zeg{B':Nat}{a:Option Addr}{l:List Int}(hB:B<=B')(h:NRow B w a l):NRow B' w a l:=by
 rcases h with h | ⟨b,off,h1,h2,h3⟩
 ·exact .inl h
 ·exact .inr ⟨b,off,h1,by omega,h3⟩
abbrev gV(G:Gm)(ka pa ra qa:Option Addr)(kc pc rc qc:Nat):Value:=.agg #[.slice ka G.kinds.length kc,.slice pa G.precs.length pc,.slice ra G.rules.length rc,.slice qa G.prods.length qc,.int .i64 G.start]
def smG(G:Gm):Prop:=∀ p,p ∈ G.prods->p.right.length<=281474976710656
def zum(G:Gm)(w:World)(e:Ending)(w':World):Prop :=
 ∃ na nc pa pc aa ac ca cc fa fc va vc,e=.returned (.tuple #[.agg #[.slice na (zay (zat G) G.nr).length nc,.slice pa (zay (zsl G) G.nr).length pc,.slice aa (zay (atF G) G.nr).length ac,.slice ca (zay (λr=>ztc G r r) G.nr).length cc,.slice fa (zfz (zdy G) G.nk G.nr).length fc,.slice va (zfz (zqx G) G.nk G.nr).length vc],.int .i64 0]) /\
  zxy w' na (zay (zat G) G.nr)/\zxy w' pa (zay (zsl G) G.nr)/\zxy w' aa (zay (atF G) G.nr)/\zxy w' ca (zay (λr=>ztc G r r) G.nr)/\zeu w' fa (zfz (zdy G) G.nk G.nr)/\zeu w' va (zfz (zqx G) G.nk G.nr)/\Below w.heap.size w w'
def zd3(fn:Nat):Prop:=∀ (G:Gm) (_:zbK G=true) (ka pa ra qa:Option Addr) (kc pc rc qc:Nat) (w:World) (_:GIn w.heap.size w G ka pa ra qa),Calls Tryz.prog fn #[gV G ka pa ra qa kc pc rc qc] w λe w'=>zum G w e w'
def CheckC(fn:Nat):Prop:=∀ (G:Gm) (ka pa ra qa:Option Addr) (kc pc rc qc:Nat) (w:World) (_:GIn w.heap.size w G ka pa ra qa) (_:smG G),Calls Tryz.prog fn #[gV G ka pa ra qa kc pc rc qc] w λe w'=>e=.returned (.int .i64 (zq8 G))/\Below w.heap.size w w'
theorem zcQ(h:GIn w.heap.size w G ka pa ra qa)(hb:Below w.heap.size w w'):GIn w'.heap.size w' G ka pa ra qa:=by
 have h:=zem hb h;have hs:=hb.size;have ht:=zdz h.tab (by omega) (zsY _ _);obtain⟨h1,h2,h3,h4,-⟩:=h;refine⟨?_,?_,?_,?_,ht⟩
 ·rcases h1 with h | ⟨b,o,a1,a2,a3⟩
  ·exact .inl h
  ·exact .inr ⟨b,o,a1,by omega,a3⟩
 ·rcases h2 with h | ⟨b,o,a1,a2,a3⟩
  ·exact .inl h
  ·exact .inr ⟨b,o,a1,by omega,a3⟩
 ·rcases h3 with h | ⟨b,o,a1,a2,a3⟩
  ·exact .inl h
  ·exact .inr ⟨b,o,a1,by omega,a3⟩
 ·rcases h4 with h | ⟨b,o,a1,a2,a3⟩
  ·exact .inl h
  ·refine .inr ⟨b,o,a1,by omega,λj hj=>?_⟩;obtain⟨v0,v1,v2,v3,v4,v5,v6,⟨p0,⟨a,c,p1,p2,p3⟩,p4,p5⟩,hc⟩:=a3 j hj;exact⟨v0,v1,v2,v3,v4,v5,v6,⟨p0,⟨a,c,p1,zeg hs p2,p3⟩,p4,zjr hs _ _ _ _ _ p5⟩,hc⟩
theorem zhp(b j:Nat):Addr.add ⟨b,0,none⟩ j=⟨b,j,none⟩:=by cases j <;> simp[Addr.add]
theorem zhn{F:Nat->Nat->Bool}(x:Int)(xs:List Int)(k:Nat):zet nk null F (x::xs) k=(zet nk null F [x] k || (zar nk null [x] && zet nk null F xs k)):=by
 have e:∀ ys:List Int,zet nk null F (x::ys) k=if x<nk then decide (k=x.toNat) else(F (x - nk).toNat k || (null (x - nk).toNat && zet nk null F ys k)):=λys=>by conv=>lhs;unfold zet
 have e0:zet nk null F [] k=false:=by unfold zet;rfl
 rw[e xs,e [],e0];unfold zar;by_cases hx:x<nk
 ·rw[if_pos hx,if_pos hx];have:decide ((nk:Int)<=x)=false:=by rw[decide_eq_false_iff_not];omega
  simp[this]
 ·rw[if_neg hx,if_neg hx];have:decide ((nk:Int)<=x)=true:=by rw[decide_eq_true_eq];omega
  simp[this]
theorem zeQ(x:Int)(xs:List Int):zar nk null (x::xs)=(zar nk null [x] && zar nk null xs):=by
 unfold zar;simp
theorem mem_posL{f:Nat->Bool}{y:Int}:y ∈ zgm (zay f n)↔∃ k:Nat,y=k/\k<n/\f k=true:=by
 have key:∀ m,m<=n->(y ∈ zgd (zay f n) m↔∃ k:Nat,y=k/\k<m/\f k=true):=by
  intro m
  induction m with
  | zero=>intro _;simp[zgd]
  | succ m ih =>
    intro hm;unfold zgd;rw[List.mem_append,ih (by omega),zdY (by omega)];constructor
    ·rintro(⟨k,h1,h2,h3⟩ | h)
     ·exact⟨k,h1,by omega,h3⟩
     ·split at h
      ·simp at h;exact⟨m,h,by omega,by assumption⟩
      ·simp at h
    ·rintro⟨k,h1,h2,h3⟩;by_cases e:k=m
     ·subst e;right;rw[if_pos h3];simp[h1]
     ·exact .inl ⟨k,h1,by omega,h3⟩
 unfold zgm;rw[zaQ];exact key n (zsG _)
theorem zfj{gb:Nat}(h:GmB B w gb G)(hB:B<=w.heap.size)(hb:Below w.heap.size w w'):GmB B w' gb G:=zaX (zab hb hB) h
def itV(x:It):Value:=.agg #[.int .i64 x.1,.int .i64 x.2.1,.int .i64 x.2.2]
theorem znY(B gb:Nat)(G:Gm)(hG:GOk G)(x:It)(w:World)(hB:B<=w.heap.size)(h:GmB B w gb G) :
 Calls Tryz.prog 104 #[.pointer (some ⟨gb,0,none⟩),itV x] w λe w'=>e=.returned (.bool (zcv G x))/\Below w.heap.size w w':=by
 obtain⟨p,d,k⟩:=x;show Calls Tryz.prog 104 #[.pointer (some ⟨gb,0,none⟩),.agg #[.int .i64 p,.int .i64 d,.int .i64 k]] w λe w'=>e=.returned (.bool (zcv G (p,d,k)))/\Below w.heap.size w w';have hb1:Below w.heap.size w (w.alloc (.cells #[.int .i64 p,.int .i64 d,.int .i64 k] 57)):=(zsY _ _).alloc (zsG _) _;have HG1:=zaa (zfj h hB hb1);have Hb1:=zaa hb1;clear hb1;have hm:=uh HG1;obtain⟨ka,kc,pa,pc,ra,rc,qa,qc,wa,wc,hlt,hbox,hin,hw,hwc⟩:=h;have hgw:gb<w.heap.size:=by omega
 have c0:=((uh Hb1).cell (p:=⟨gb,0,none⟩) hgw).trans (zac hbox 0 rfl);have c3:=((uh Hb1).cell (p:=⟨gb,3,none⟩) hgw).trans (zac hbox 3 rfl);clear hbox hin hw hm;have hps:=hG.ps;have hk3:=hG.k3;unfold Gm.nk at hk3;by_cases h1:0<=p
 case neg =>
  have d1:decide (0<=p)=false:=decide_eq_false h1;have hv:zcv G (p,d,k)=false:=decide_eq_false (λh=>h1 h.1);rw[hv];clear hv;go_enter Tryz.func104,Tryz.ntmps104;go_wp2_with fail;go_quiet (fail);go_wp2;go_ret;exact⟨rfl,zap (uh Hb1) _⟩
 have d1:decide (0<=p)=true:=decide_eq_true h1;by_cases h2:p<=(G.prods.length:Int)
 case neg =>
  have d2:decide (p<=(G.prods.length:Int))=false:=decide_eq_false h2;have hv:zcv G (p,d,k)=false:=decide_eq_false (λh=>h2 h.2.1);rw[hv];clear hv;go_enter Tryz.func104,Tryz.ntmps104;go_wp2_with fail;go_quiet (fail);go_wp2;go_ret;exact⟨rfl,zap (uh Hb1) _⟩
 have d2:decide (p<=(G.prods.length:Int))=true:=decide_eq_true h2;obtain⟨q,rfl⟩:∃ q:Nat,p=q:=⟨p.toNat,by omega⟩;have hl64:=zcu hG (p:=(q:Int)) h1 h2;obtain⟨a,c,hrow,hc,hR⟩:=zk8 B gb G hG q (by omega) _ (uh HG1);have HR:=zaa hR;clear hR hrow;by_cases h3:0<=d
 case neg =>
  have d3:decide (0<=d)=false:=decide_eq_false h3;have hv:zcv G ((q:Int),d,k)=false:=decide_eq_false (λh=>h3 h.2.2.1);rw[hv];clear hv;go_enter Tryz.func104,Tryz.ntmps104;go_wp2_with fail;go_quiet (fail);go_wp2;go_ret;exact⟨rfl,zap (uh Hb1) _⟩
 have d3:decide (0<=d)=true:=decide_eq_true h3;by_cases h4:d<=((zas G (q:Int)).length:Int)
 case neg =>
  have d4:decide (d<=((zas G (q:Int)).length:Int))=false:=decide_eq_false h4;have hv:zcv G ((q:Int),d,k)=false:=decide_eq_false (λh=>h4 h.2.2.2.1);rw[hv];clear hv;generalize zas G q=row at *;go_enter Tryz.func104,Tryz.ntmps104;go_wp2_with fail;go_quiet ((go_at_call 82;exact zdl (uh HR _)));go_wp2;go_ret;exact⟨rfl,zap (uh Hb1) _⟩
 have d4:decide (d<=((zas G (q:Int)).length:Int))=true:=decide_eq_true h4;by_cases h5:0<=k
 case neg =>
  have d5:decide (0<=k)=false:=decide_eq_false h5;have hv:zcv G ((q:Int),d,k)=false:=decide_eq_false (λh=>h5 h.2.2.2.2.1);rw[hv];clear hv;generalize zas G q=row at *;go_enter Tryz.func104,Tryz.ntmps104;go_wp2_with fail;go_quiet ((go_at_call 82;exact zdl (uh HR _)));go_wp2;go_ret;exact⟨rfl,zap (uh Hb1) _⟩
 have d5:decide (0<=k)=true:=decide_eq_true h5;by_cases h6:k<(G.kinds.length:Int)
 case neg =>
  have d6:decide (k<(G.kinds.length:Int))=false:=decide_eq_false h6;have hv:zcv G ((q:Int),d,k)=false:=decide_eq_false (λh=>h6 h.2.2.2.2.2);rw[hv];clear hv;generalize zas G q=row at *;go_enter Tryz.func104,Tryz.ntmps104;go_wp2_with fail;go_quiet ((go_at_call 82;exact zdl (uh HR _)));go_wp2;go_ret;exact⟨rfl,zap (uh Hb1) _⟩
 have d6:decide (k<(G.kinds.length:Int))=true:=decide_eq_true h6;have hv:zcv G ((q:Int),d,k)=true:=decide_eq_true ⟨h1,h2,h3,h4,h5,h6⟩;rw[hv];clear hv;generalize zas G q=row at *;go_enter Tryz.func104,Tryz.ntmps104;go_wp2_with fail;go_quiet ((go_at_call 82;exact zdl (uh HR _)));go_wp2;go_ret;exact⟨rfl,zap (uh Hb1) _⟩
theorem zfi(B gb:Nat)(G:Gm)(hG:GOk G)(ia:Option Addr)(ic:Nat)(l:List It)(hl:l.length<=281474976710656)(w:World)(hB:B<=w.heap.size)(h:GmB B w gb G)(hi:zcy w.heap.size w ia l) :
 Calls Tryz.prog 63 #[.pointer (some ⟨gb,0,none⟩),.slice ia l.length ic] w λe w'=>e=.returned (.bool (zdv G l))/\Below w.heap.size w w':=by
 have HG:=zaa h;have Hi:=zaa hi;clear h hi;have hnot:=zbl;obtain⟨R,hR⟩:∃ R,R=zdv G l:=⟨_,rfl⟩;rw[<- hR];have HRR:=zaa hR;clear hR;go_enter Tryz.func63,Tryz.ntmps63;go_wp2
 go_loopw [9] (λx wr=>∃ k:Nat,x=.int .i64 k/\k<=l.length/\(∀ j,j<k->zcv G (l.getD j it0)=true)/\Below w.heap.size w wr) (λx _=>l.length - (intOf x).toNat)
 case atStart=>exact⟨0,rfl,zsK _,λj hj=>absurd hj (Nat.not_lt_zero _),zsY _ _⟩
 case round =>
  obtain⟨k,rfl,hk,hall,hb⟩:=hrel;have hsz:=hb.size;have Hall:=zaa hall;have Hb:=zaa hb;clear hall hb;by_cases hlt:k<l.length
  ·have hlt':(k:Int)<l.length:=by omega
   obtain⟨b,off,rfl,hbl,q0,q1,q2⟩:=zby (zaw (uh Hb) (uh Hi)) hlt;have hb1:Below w.heap.size w (wr.alloc (.cells #[.int .i64 (l.getD k it0).1,.int .i64 (l.getD k it0).2.1,.int .i64 (l.getD k it0).2.2] 57)):=(uh Hb).alloc hsz _;have HI:=zaa (znY B gb G hG (l.getD k it0) _ (by have:=hb1.size;omega) (zfj (uh HG) hB hb1));have Hb1:=zaa hb1;unfold itV at HI;clear hb1
   cases hx:zcv G (l.getD k it0) with
   | false =>
     have hv:zdv G l=false:=by
      rw[Bool.eq_false_iff];intro h;rw[areIt_iff.1 h _ (zbR hlt)] at hx
      cases hx
     obtain rfl:R=false:=(uh HRR).trans hv;rw[hx] at HI;clear hv hx;generalize l.getD k it0=x at *;go_wp2_with fail;refine(uh HI).mono ?_;rintro e w2 ⟨rfl,hb2⟩;go_wp2;go_ret;exact⟨rfl,(uh Hb1).trans (zab hb2 (uh Hb1).size)⟩
   | true =>
     have Ha2:Hid (∀ j,j<k+1->zcv G (l.getD j it0)=true):=zaa (λj hj=>by
      by_cases e:j=k
      ·rw[e];exact hx
      ·exact uh Hall j (by omega))
     rw[hx] at HI;clear hx;generalize l.getD k it0=x at *;go_wp2_with fail;refine(uh HI).mono ?_;rintro e w2 ⟨rfl,hb2⟩;have Hb3:=zaa ((uh Hb1).trans (zab hb2 (uh Hb1).size));clear hb2;go_wp2;go_roundw
     case rel=>exact⟨k+1,by go_num,by omega,uh Ha2,uh Hb3⟩
     case measure=>simp[intOf];omega
  ·have hlt':¬ (k:Int)<l.length:=by omega
   have hv:zdv G l=true:=areIt_iff.2 (λx hx=>by
    obtain⟨j,hj,rfl⟩:=zsT.1 hx;have:=uh Hall j (by omega);rw[zsE,zsF hj] at this
    exact this)
   obtain rfl:R=true:=(uh HRR).trans hv;clear hv;go_wp2;go_ret;exact⟨rfl,uh Hb⟩
end Go.Proofs.YtieciibnajeibaaGreatDoor

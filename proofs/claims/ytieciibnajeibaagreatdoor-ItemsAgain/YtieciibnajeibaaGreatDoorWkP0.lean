import Derived.Test.YtieciibnajeibaaGreatDoorRows
import Derived.WalkSpells
import Derived.WalkLawsBesides
import Derived.Handy
import Derived.Deep.RegionWith
import Derived.Deep.AppendLies
set_option maxHeartbeats 8000000
set_option maxRecDepth 100000
namespace Go.Proofs.YtieciibnajeibaaGreatDoor.Wk
open Go.RowKit Go.Maps
variable{B n:Nat}{O O':Nat->Prop}{a b c w w':World}{p:Prop}{v:Value}{xs:List Value}
theorem zaa(h:p):Hid p:=h
theorem uh(h:Hid p):p:=h
theorem zbo{a b:Bool}(h:a=b):Ending.returned (.bool a)=.returned (.bool b):=by rw[h]
structure Off (O:Nat->Prop) (w w':World):Prop where
 os:w'.os=w.os
 tape:w'.tape=w.tape
 output:w'.output=w.output
 size:w.heap.size<=w'.heap.size
 block:∀ k,k<w.heap.size->¬ O k->w'.heap[k]? = w.heap[k]?
theorem zaJ(O:Nat->Prop)(w:World):Off O w w:=⟨rfl,rfl,rfl,Nat.le_refl _,λ_ _ _=>rfl⟩
theorem zgR(h:Off O a b)(k:Off O b c):Off O a c :=
 ⟨k.os.trans h.os,k.tape.trans h.tape,k.output.trans h.output,Nat.le_trans h.size k.size,λi hi hn=>(k.block i (Nat.lt_of_lt_of_le hi h.size) hn).trans (h.block i hi hn)⟩
theorem zj0(h:Off O a b)(k:Off O' b c)(hO:∀ i,O' i->O i\/a.heap.size<=i):Off O a c :=
 ⟨k.os.trans h.os,k.tape.trans h.tape,k.output.trans h.output,Nat.le_trans h.size k.size,λi hi hn=>(k.block i (Nat.lt_of_lt_of_le hi h.size) (λho=>by rcases hO i ho with h1 | h1;exact hn h1;omega)).trans (h.block i hi hn)⟩
theorem zmv(h:Off O a b)(hO:∀ i,O i->O' i\/a.heap.size<=i):Off O' a b :=
 ⟨h.os,h.tape,h.output,h.size,λi hi hn=>h.block i hi (λho=>by rcases hO i ho with h1 | h1;exact hn h1;omega)⟩
theorem zbj(h:Below a.heap.size a b):Off O a b:=⟨h.os,h.tape,h.output,h.size,λk hk _=>h.block k hk⟩
theorem zdL(h:Off O a w)(o:Obj):Off O a (w.alloc o) :=
 ⟨h.os,h.tape,h.output,by simp;have:=h.size;omega,λk hk hn=>(Below.heap_alloc w o k (Nat.lt_of_lt_of_le hk h.size)).trans (h.block k hk hn)⟩
theorem zmw(h:Off O a w):Off O a w.drew:=⟨h.os,h.tape,h.output,h.size,h.block⟩
theorem zaL(h:Off O a w){p:Addr}(hp:O p.block\/a.heap.size<=p.block)(u:Value):Off O a (w.setCell p u):=by
 have hb:=(Below.refl 0 w).setCell (p:=p) (Nat.zero_le _) u;exact⟨hb.os.trans h.os,hb.tape.trans h.tape,hb.output.trans h.output,Nat.le_trans h.size hb.size,λk hk hn=>(Below.heap_setCell w p u k (λe=>by subst e;rcases hp with h1 | h1;exact hn h1;omega)).trans (h.block k hk hn)⟩
theorem zc9{row:Option Nat}(h:Off O a w)(hg:w.grownBy w' row)(hr:∀ k,row=some k->O k\/a.heap.size<=k):Off O a w' :=
 ⟨hg.os.trans h.os,hg.tape.trans h.tape,hg.output.trans h.output,Nat.le_trans h.size hg.size,λk hk hn=>(hg.block k (Nat.lt_of_lt_of_le hk h.size) (λe=>by rcases hr k e.symm with h1 | h1;exact hn h1;omega)).trans (h.block k hk hn)⟩
theorem zgp(h:Off O a b){p:Addr}(hp:p.block<a.heap.size)(hn:¬ O p.block):b.cell? p=a.cell? p:=World.cell?_of_block (h.block _ hp hn)
theorem lt_of_some{b:Nat}{o:Obj}(h:w.heap[b]? = some o):b<w.heap.size:=(Array.getElem?_eq_some_iff.1 h).1
theorem zaf{e:TypeId}{size:Nat}(h:w.ownsRow B e size v n xs):∃ a c,v=.slice a n c:=by
 rcases h.2 with ⟨rfl,rfl⟩ | ⟨g,cap,cur,rfl,_⟩
 ·exact⟨_,_,rfl⟩
 ·exact⟨_,_,rfl⟩
theorem own_off{e:TypeId}{size:Nat}(h:w.ownsRow B e size v n xs)(ho:Off O w w')(hn:∀ k,v.ownBlock=some k->¬ O k):w'.ownsRow B e size v n xs:=by
 refine⟨h.1,?_⟩;rcases h.2 with h0 | ⟨g,cap,cur,rfl,hg,hh,rest⟩
 ·exact .inl h0
 ·exact .inr ⟨g,cap,cur,rfl,hg,(ho.block g (lt_of_some hh) (hn g rfl)).trans hh,rest⟩
theorem own_cell{e:TypeId}{size:Nat}(h:w.ownsRow B e size v n xs){g c:Nat}(hv:v=.slice (some ⟨g,0,none⟩) n c)(j:Nat)(hj:j<xs.length):w.cell? ⟨g,j,none⟩=some (xs.getD j undef):=by
 have e:(⟨g,0,none⟩:Addr).add j=⟨g,j,none⟩:=by unfold Addr.add;split <;> simp_all
 rw[<- e];refine h.cells (g:=g) (by rw[hv];rfl) j _ ?_;rw[List.getD_eq_getElem?_getD,List.getElem?_eq_getElem hj];rfl
theorem own_pos{e:TypeId}{size:Nat}(h:w.ownsRow B e size v n xs)(hn:0<n):∃ g c,v=.slice (some ⟨g,0,none⟩) n c/\B<=g/\g<w.heap.size/\n<=c/\c<=maxLen:=by
 rcases h.2 with ⟨_,h0⟩ | ⟨g,cap,cur,hv,hb,hg,h1,h2,_⟩
 ·omega
 ·exact⟨g,cap,hv,hb,lt_of_some hg,h1,h2⟩
theorem ziV{H:Type}{P:Program}{k:TypeId}{R:Value->Option (DataW H × List MemPlace)}{b:Nat}{D:DataW H}(h:w.ownsMap P k R b n D)(ho:Off O w w')(hn:¬ O b):w'.ownsMap P k R b n D:=by
 have hlt:=h.lt;obtain⟨es,clock,hb,F,hs,hD⟩:=h;exact⟨es,clock,(ho.block b hlt hn).trans hb,F,hs,hD⟩
end Go.Proofs.YtieciibnajeibaaGreatDoor.Wk

import Derived.Test.YtieciibnajeibaaGreatDoorB1
import Derived.Deep.AppendLies
namespace Go.Proofs.YtieciibnajeibaaGreatDoor
open Go.RowKit
def zxA(V:Nat->Value)(r:Nat)(v:Value):Nat->Value:=λj=>if j=r then v else V j
def zkO(F:Nat->List Int)(r:Nat)(l:List Int):Nat->List Int:=λj=>if j=r then l else F j
theorem ze0(F:Nat->List Int)(r:Nat)(l:List Int):zkO F r l r=l:=by simp[zkO]
variable{F:Nat->List Int}{O O':Nat->Prop}{V:Nat->Value}{l:List Int}{n r tb:Nat}{w w':World}
theorem zis{j:Nat}(h:j≠r):zkO F r l j=F j:=by simp[zkO,h]
structure TabV (O:Nat->Prop) (w:World) (tb n:Nat) (V:Nat->Value) (F:Nat->List Int):Prop where
 own:O tb
 lt:∀ k,O k->k<w.heap.size
 row:w.rowIs tb 50 n V
 rows:∀ r,r<n->w.ownsRow 0 3 1 (V r) (F r).length (zao (F r))/\∀ k,(V r).ownBlock=some k->O k
 apart:∀ r s,r<n->s<n->r≠s->∀ k,(V r).ownBlock=some k->(V s).ownBlock≠some k
def zbB(O:Nat->Prop)(w:World)(tb n:Nat)(F:Nat->List Int):Prop:=∃ V,TabV O w tb n V F
theorem ze2(h:TabV O w tb n V F)(hf:Fr O' w w')(hd:∀ k,O k->¬ O' k):TabV O w' tb n V F:=by
 refine⟨h.own,λk hk=>zsJ (h.lt k hk) hf.1,h.row.of_block (hf.2.1 _ (h.lt _ h.own) (hd _ h.own)),λr hr=>⟨?_,(h.rows r hr).2⟩,h.apart⟩;obtain⟨h1,h2⟩:=h.rows r hr;rcases h1 with ⟨hl,h1⟩;refine⟨hl,?_⟩;rcases h1 with h1 | ⟨g,cap,cur,hv,hb,hh,rest⟩
 ·exact .inl h1
 ·have hO:O g:=h2 g (by rw[hv];rfl);exact .inr ⟨g,cap,cur,hv,hb,(hf.2.1 g (h.lt g hO) (hd g hO)).trans hh,rest⟩
theorem zeE(h:zbB O w tb n F)(hf:Fr O' w w')(hd:∀ k,O k->¬ O' k):zbB O w' tb n F:=by
 obtain⟨V,h⟩:=h;exact⟨V,ze2 h hf hd⟩
theorem zaK(h:zbB O w tb n F)(hb:Below w.heap.size w w'):zbB O w' tb n F:=zeE (O':=λ_=>False) h (zae hb) (λ_ _ h=>h)
theorem za6(h:TabV O w tb n V F)(hr:r<n):∃ a c,V r=.slice a (F r).length c/\w.cell? ⟨tb,r,none⟩=some (.slice a (F r).length c)/\w.frozen? ⟨tb,r,none⟩=false/\NRow w.heap.size w a (F r):=by
 obtain⟨a,c,hv⟩:=zaf (h.rows r hr).1;have hc:=h.row.cell hr;rw[hv] at hc;have ho:=(h.rows r hr).1;rw[hv] at ho;obtain⟨a',c',h1,h2⟩:=zb4 ho
 cases h1
 exact⟨a,c,hv,hc,h.row.frozen r,h2⟩
theorem zoU(h:zbB O w tb n F)(hr:r<n):∃ a c,w.cell? ⟨tb,r,none⟩=some (.slice a (F r).length c)/\NRow w.heap.size w a (F r):=by
 obtain⟨V,h⟩:=h;obtain⟨a,c,-,h1,-,h2⟩:=za6 h hr;exact⟨a,c,h1,h2⟩
theorem zd8{w1 w2:World}(h:TabV O w tb n V F)(hr:r<n)(hb:Below w.heap.size w w1){g cap H:Nat}(hH:w1.heap.size=H)
 (ho:w2.ownsRow 0 3 1 (.slice (some ⟨g,0,none⟩) l.length cap) l.length (zao l)) (hg:w1.grownBy w2 (V r).ownBlock) (hw:(V r).ownBlock=some g\/g=H) (hlt:g<w2.heap.size) :
 zbB (λk=>O k\/w.heap.size<=k/\k<w2.heap.size) (w2.setCell ⟨tb,r,none⟩ (.slice (some ⟨g,0,none⟩) l.length cap)) tb n (zkO F r l)/\Fr O w (w2.setCell ⟨tb,r,none⟩ (.slice (some ⟨g,0,none⟩) l.length cap)):=by
 have hs1:=hb.size;have hs2:=hg.size;have hVO:∀ k,(V r).ownBlock=some k->O k:=(h.rows r hr).2;have hf1:Fr O w w1:=zae hb;have hf2:Fr O w w2:=⟨by omega,λk hk hno=>(hg.block k (by omega) (λe=>hno (hVO k e.symm))).trans (hf1.2.1 k hk hno),hg.os.trans hf1.2.2.1,hg.tape.trans hf1.2.2.2.1,hg.output.trans hf1.2.2.2.2⟩;have hfr:Fr O w (w2.setCell ⟨tb,r,none⟩ (.slice (some ⟨g,0,none⟩) l.length cap)):=zaD hf2 h.own _;have hrow2:w2.rowIs tb 50 n V:=by
  have htb:some tb≠(V r).ownBlock:=λe=>by
   have h1:=(h.rows r hr).1;rcases h1.2 with ⟨hv,_⟩ | ⟨g',cap',cur,hv,_,hh,_⟩
   ·rw[hv] at e;simp[Value.ownBlock] at e
   ·rw[hv] at e;simp[Value.ownBlock] at e;subst e;obtain⟨cs,h2,-⟩:=h.row;rw[h2] at hh;cases hh
  exact(h.row.of_block (hb.block _ (h.lt _ h.own))).of_block (hg.block _ (by have:=h.lt _ h.own;omega) htb)
 have hgtb:g≠tb:=λe=>by
  subst e;rcases ho.2 with ⟨hv,_⟩ | ⟨g',cap',cur,hv,_,hh,_⟩
  ·cases hv
  ·cases hv
   obtain⟨cs,h2,-⟩:=hrow2;rw[h2] at hh;cases hh
 have hsz:(w2.setCell ⟨tb,r,none⟩ (.slice (some ⟨g,0,none⟩) l.length cap)).heap.size=w2.heap.size:=by simp
 have hset:Fr (· = tb) w2 (w2.setCell ⟨tb,r,none⟩ (.slice (some ⟨g,0,none⟩) l.length cap)):=zaD (zax _ _) (by rfl) _;have keep:∀ (v:Value) (m:Nat) (xs:List Value),w2.ownsRow 0 3 1 v m xs->(w2.setCell ⟨tb,r,none⟩ (.slice (some ⟨g,0,none⟩) l.length cap)).ownsRow 0 3 1 v m xs:=λv m xs hv=>by
  refine⟨hv.1,?_⟩;rcases hv.2 with h1 | ⟨g',cap',cur,hv',hb',hh,rest⟩
  ·exact .inl h1
  ·refine .inr ⟨g',cap',cur,hv',hb',(hset.2.1 g' (zsO.1 hh).1 (λe=>?_)).trans hh,rest⟩;have e:g'=tb:=e;subst e;obtain⟨cs,h2,-⟩:=hrow2;rw[h2] at hh;cases hh
 refine⟨⟨zxA V r (.slice (some ⟨g,0,none⟩) l.length cap),.inl h.own,?_,?_,?_,?_⟩,hfr⟩
 ·intro k hk;rw[hsz];rcases hk with hk | hk
  ·have:=h.lt k hk;omega
  ·exact hk.2
 ·exact(hrow2.set r _).congr (λi _=>rfl)
 ·intro s hs;by_cases e:s=r
  ·subst e;rw[ze0];have hv:zxA V s (.slice (some ⟨g,0,none⟩) l.length cap) s=.slice (some ⟨g,0,none⟩) l.length cap:=by simp[zxA]
   rw[hv];refine⟨keep _ _ _ ho,λk hk=>?_⟩;simp only[Value.ownBlock,Option.some.injEq] at hk;subst hk;rcases hw with h1 | h1
   ·exact .inl (hVO _ h1)
   ·exact .inr ⟨by omega,hlt⟩
  ·rw[zis e];have hv:zxA V r (.slice (some ⟨g,0,none⟩) l.length cap) s=V s:=by simp[zxA,e]
   rw[hv];obtain⟨h1,h2⟩:=h.rows s hs;refine⟨keep _ _ _ ?_,λk hk=>.inl (h2 k hk)⟩;have h1':w1.ownsRow 0 3 1 (V s) (F s).length (zao (F s)):=zaR (zaW h1 hb) (zsG _);refine h1'.kept hg ?_
   cases hvs:(V s).ownBlock with
   | none=>exact .inl rfl
   | some k=>exact .inr (λe2=>h.apart r s hr hs (λe3=>e e3.symm) k e2.symm hvs)
 ·intro a b ha hb' hab k hk hk2;unfold zxA at hk hk2;by_cases ea:a=r
  ·subst ea;rw[if_pos rfl] at hk;rw[if_neg (λe=>hab e.symm)] at hk2;simp only[Value.ownBlock,Option.some.injEq] at hk;subst hk;rcases hw with h1 | h1
   ·exact h.apart a b ha hb' hab _ h1 hk2
   ·have:=h.lt _ ((h.rows b hb').2 _ hk2);omega
  ·rw[if_neg ea] at hk;by_cases eb:b=r
   ·subst eb;rw[if_pos rfl] at hk2;simp only[Value.ownBlock,Option.some.injEq] at hk2;subst hk2;rcases hw with h1 | h1
    ·exact h.apart a b ha hb' hab _ hk h1
    ·have:=h.lt _ ((h.rows a ha).2 _ hk);omega
   ·rw[if_neg eb] at hk2;exact h.apart a b ha hb' hab k hk hk2
theorem zeF(w:World)(n:Nat):zbB (· = w.heap.size) (w.alloc (.cells (madeCells #[.slice none 0 0] n) 50)) w.heap.size n (λ_=>[]) :=
 ⟨λ_=>.slice none 0 0,rfl,λk hk=>by subst hk;simp,World.rowIs_made w _ n 50,λr _=>⟨World.ownsRow_nil _ _ _ _,λk hk=>by simp[Value.ownBlock] at hk⟩,λr s _ _ _ k hk=>by simp[Value.ownBlock] at hk⟩
end Go.Proofs.YtieciibnajeibaaGreatDoor

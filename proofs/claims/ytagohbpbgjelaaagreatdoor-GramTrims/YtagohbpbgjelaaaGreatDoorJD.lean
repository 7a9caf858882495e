/- The code's followWithin. -/
import Derived.Test.YtagohbpbgjelaaaGreatDoorJC
import Derived.Test.YtagohbpbgjelaaaGreatDoorHQ
namespace Go.Proofs.YtagohbpbgjelaaaGreatDoor
open Go.RowKit Go.Shelf

attribute [local go_sem] Oper.semAt_some

theorem zlY {V:Int × Int→Prop} {l:List (Int × Int)} (h:∀ p ∈ l,V p):(l.attachWith V h).map Subtype.val=l:=by
 rw[List.attachWith,List.map_pmap]
 simp
theorem zn8 {l:List Int} {p:Int × Int} (h:p ∈ zb7 l):p.2 ∈ l:=by
 have:p.2 ∈ (zb7 l).map Prod.snd:=List.mem_map_of_mem h
 rw[zn6] at this
 simpa using this
theorem zn5 {α:Type} (val:α→Int × Int) (bl:List α) (F:Fence) (n:Nat) (h150:F.fn 150) (hro:F.round=none) (hn:1≤n) (Bs:Nat) (a:Option Addr) (cap:Nat) (C:Nat→Prop) (l:List Int) (hbl:bl.map val=zb7 l) (hlen:l.length≤1500000000000) (w:World) (hBl:Bs<w.heap.size) (hCB:C Bs) (hBs:w.cell? ⟨Bs,0,none⟩=some (.slice a l.length cap))
 (hr:l=[]∨∃ b off,a=some ⟨b,off,none⟩∧b<w.heap.size∧C b∧∀ j,j<l.length→w.cell? ⟨b,off+j,none⟩=some (.int .i64 (l.getD j 0))) :
 SeqStopsK F n Tryz.prog 150 #[.pointer (some ⟨Bs,0,none⟩)] (fun x:α=>#[Value.int .i64 (val x).1,Value.int .i64 (val x).2]) (zgG C) (fun ys=>ys=bl) (fun pre=>pre <+: bl) l.length w:=fun l0 J Jx W hW _ _ hY h0=>by
 refine zrH val bl F n h150 hro hn l0 Bs a cap C l hbl hlen J Jx hY W hCB ((hW.cell (p:=⟨Bs,0,none⟩) hBl).trans hBs) ?_ h0
 rcases hr with h | ⟨b,off,rfl,hlt,hC,hcs⟩
 ·exact .inl h
 ·exact .inr ⟨b,off,rfl,hC,fun j hj=>(hW.cell (p:=⟨b,off+j,none⟩) hlt).trans (hcs j hj)⟩
theorem zkH {K:FwK} {C:Nat→Int→Bool} {W:Nat→List Nat} {S:Nat} {D:Int→Bool} {em:Bool} {V:World} (h:FwI K C W S D em V) (v1 v2:Value):Fr (fun k=>k=K.hx∨k=K.ex) V ((V.setCell ⟨K.hx,0,none⟩ v1).setCell ⟨K.ex,0,none⟩ v2)∧((V.setCell ⟨K.hx,0,none⟩ v1).setCell ⟨K.ex,0,none⟩ v2).heap[K.hx]? = some (.cells #[v1] 75 (0,0))∧((V.setCell ⟨K.hx,0,none⟩ v1).setCell ⟨K.ex,0,none⟩ v2).heap[K.ex]? = some (.cells #[v2] 4 (0,0)):=by
 have hne:K.hx≠K.ex:=zaF h.b5 h.b6 (by decide)
 have h1:(V.setCell ⟨K.hx,0,none⟩ v1).heap[K.hx]? = some (.cells #[v1] 75 (0,0)):=by
  have:=Wk.block_set (i:=0) h.b5 v1
  simpa using this
 have h2:(V.setCell ⟨K.hx,0,none⟩ v1).heap[K.ex]? = some (.cells #[.bool em] 4 (0,0)):=(zaj V (fun e=>hne e.symm)).trans h.b6
 refine⟨zaz (zaz (zav _ _) (.inl rfl) _) (.inr rfl) _,(zaj _ hne).trans h1,?_⟩
 have:=Wk.block_set (i:=0) h2 v2
 simpa using this
theorem zn7 {α:Type} (val:α→Int × Int) {l:List Int} {pre:List α} {x:α} (h:(pre ++ [x]).map val <+: zb7 l):pre.map val <+: zb7 l∧pre.length<l.length∧(val x).2=l.getD (l.length - 1 - pre.length) 0:=by
 rw[List.map_append] at h
 have h1:pre.map val <+: zb7 l:=(List.prefix_append _ _).trans h
 have hlen:=h.length_le
 rw[zcX] at hlen
 simp at hlen
 refine⟨h1,by omega,?_⟩
 have h2:=zgz l pre.length (by omega)
 unfold ziZ at h2
 have h3:(pre.map val ++ [val x])=(zb7 l).take (pre.length+1):=by
  have h4:=List.prefix_iff_eq_take.1 h
  simp at h4
  exact h4
 have h5:pre.map val=(zb7 l).take pre.length:=by
  have h4:=List.prefix_iff_eq_take.1 h1
  simp at h4
  exact h4
 rw[h2,← h5] at h3
 have h6:=List.append_cancel_left h3
 simp at h6
 rw[h6,List.getD_eq_getElem?_getD]
theorem zpA (w:World) (v1 v2 v3 v4:Array Value) (t1 t2 t3 t4:Nat) {WA:World} (h:WA=(((w.alloc (.cells v1 t1)).alloc (.cells v2 t2)).alloc (.cells v3 t3)).alloc (.cells v4 t4)):Below w.heap.size w WA∧WA.heap.size=w.heap.size+1+1+1+1∧WA.heap[w.heap.size]? = some (.cells v1 t1 (0,0))∧WA.heap[w.heap.size+1]? = some (.cells v2 t2 (0,0))∧WA.heap[w.heap.size+1+1]? = some (.cells v3 t3 (0,0))∧WA.heap[w.heap.size+1+1+1]? = some (.cells v4 t4 (0,0)):=by
 have n1:=Go.Deep.blk_alloc_new w (.cells v1 t1 (0,0))
 have n2:=Go.Deep.blk_alloc_new (w.alloc (.cells v1 t1)) (.cells v2 t2 (0,0))
 have n3:=Go.Deep.blk_alloc_new ((w.alloc (.cells v1 t1)).alloc (.cells v2 t2)) (.cells v3 t3 (0,0))
 have n4:=Go.Deep.blk_alloc_new (((w.alloc (.cells v1 t1)).alloc (.cells v2 t2)).alloc (.cells v3 t3)) (.cells v4 t4 (0,0))
 simp only[World.size_alloc] at n2 n3 n4
 subst h
 refine⟨((((Below.refl _ _).alloc (Nat.le_refl _) _).alloc (by simp) _).alloc (by simp;omega) _).alloc (by simp;omega) _,by simp,?_,?_,?_,n4⟩
 ·rw[Below.heap_alloc _ _ _ (by simp;omega),Below.heap_alloc _ _ _ (by simp;omega),Below.heap_alloc _ _ _ (by simp)];exact n1
 ·rw[Below.heap_alloc _ _ _ (by simp),Below.heap_alloc _ _ _ (by simp)];exact n2
 ·rw[Below.heap_alloc _ _ _ (by simp)];exact n3
def FwJ (G:Gm) (K:FwK) (w5:World) (k nW:Nat) (bl:List (Int × Int)) (pre:List (Int × Int)) (V:World):Prop:=∃ C W S D em,FwI K C W S D em V∧Below K.M w5 V∧(∀ r,(W r).length≤nW+pre.length)∧(pre <+: bl→FlI G (Dn k ((rhs G k).length - pre.length)) (nW+pre.length) C W∧BeI G (rhs G k) ((rhs G k).length - pre.length) D em)
theorem zrd {G:Gm} {K:FwK} {w5:World} {k nW:Nat} {bl:List (Int × Int)} {base:Nat} (hbase:K.M≤base) {α:Type} (val:α→Int × Int):OwnFrom base (fun(pre:List α) V=>FwJ G K w5 k nW bl (pre.map val) V):=fun s X Y row ⟨C,W,S,D,em,h1,h0,h2,h3⟩ hg hr =>
 ⟨C,W,S,D,em,zjK (O:=fun k=>row=some k) h1 ⟨hg.size,fun k hk ho=>hg.block k hk (fun e=>ho e.symm),hg.os,hg.tape,hg.output⟩ (fun k cs t ho hk=>by
  obtain⟨-,o,h4,h5⟩:=hr k ho
  rw[hk] at h4
  cases h4
  simp[Obj.isCells] at h5),h0.grown hg h1.sz (fun j hj=>Nat.le_trans hbase (hr j hj).1),h2,h3⟩
def zom (G:Gm) (M:Nat) (w5:World) (k nW tb wb:Nat) (A:Nat→Nat) (w':World):Prop:=∃ C' W',FlI G (fun q _=>q<k+1) (nW+64) C' W'∧(∃ OO,SetsV M w' tb G.rules.length A OO id C')∧zhj M w' wb G.rules.length W'∧Below M w5 w'
set_option maxHeartbeats 4000000 in
set_option maxRecDepth 100000 in
theorem zfw (G:Gm) (hG:GOk G) (ka:Option Addr) (kc gb bb nb sb sc N:Nat) (A2:Nat→Nat) (w5:World) (hc0:w5.cell? ⟨gb,0,none⟩=some (.slice ka G.kinds.length kc)) (hbg:BgAt N w5 G bb nb sb sc gb A2)
 (tb tc wb wcp nW:Nat) (A:Nat→Nat) (C:Nat→Int→Bool) (W:Nat→List Nat) (k:Nat) (hk:k<G.prods.length) (ha:atF G (lhs G k)=true) (hF:FlI G (fun q _=>q<k) nW C W) (hnW:nW≤262144)
 (rr:Option Addr) (rrc:Nat) (plv x3 x4:Int) (x5:ByteArray) (x6:Option Addr) (n6 c6:Nat) (hrr:NRow w5.heap.size w5 rr (rhs G k)) (w:World) (hw:Below w5.heap.size w5 w) (hst:∃ OO,SetsV w5.heap.size w tb G.rules.length A OO id C) (htab:zhj w5.heap.size w wb G.rules.length W) :
 Calls Tryz.prog 90 #[.pointer (some ⟨bb,0,none⟩),.agg #[.int .i64 (lhs G k:Nat),.slice rr (rhs G k).length rrc,.int .i64 plv,.int .i64 x3,.int .i64 x4,.string x5,.slice x6 n6 c6],.slice (some ⟨tb,0,none⟩) G.rules.length tc,.slice (some ⟨wb,0,none⟩) G.rules.length wcp] w fun e w'=>(∃ v,e=.returned v)∧zom G w5.heap.size w5 k nW tb wb A w':=by
 have hpl:=hG.pl _ (zag hk)
 have hpr:(rhs G k).length≤64:=hG.pr _ (zag hk)
 have hpy:zii (G.nk+G.nr) (rhs G k):=hG.py _ (zag hk)
 have hll:lhs G k<G.rules.length:=by have h1:=hpl.2;unfold Gm.nr at h1;show (G.prods.getD k pd0).left.toNat<_;omega
 have hr2:=hG.r2;have hr1:=hG.r1;have hk3:=hG.k3
 unfold Gm.nr at hr2 hr1
 unfold Gm.nk at hk3
 have hnot:=zaG
 have hszw:=hw.size
 obtain⟨OO0,hst0⟩:=hst
 have htbl:=(zb0 hst0).1
 have htbB:=hst0.tbB
 obtain⟨V0,hV0,hV0M⟩:=htab
 have hwbl:=hV0.lt _ hV0.own
 have hwbM:=hV0M _ hV0.own
 have htab:zhj w5.heap.size w wb G.rules.length W:=⟨V0,hV0,hV0M⟩
 -- the steps, in plain words
 have Hkd:=zaa (fun(j n:Nat) (C:Nat→Int→Bool) (W:Nat→List Nat) (h:FlI G (Dn k (j+1)) n C W) (hx:(rhs G k).getD j 0<(G.nk:Int))=>zgn (zrj h hx) (Nat.le_succ n) (fun _ _ _ _=>Iff.rfl))
 have Hrl:=zaa (fun(j n y:Nat) (C:Nat→Int→Bool) (W:Nat→List Nat) (D:Int→Bool) (em:Bool) (h:FlI G (Dn k (j+1)) n C W) (hj:j<(rhs G k).length) (hx:(G.nk:Int)≤(rhs G k).getD j 0) (hD:BeI G (rhs G k) (j+1) D em) (hy:((rhs G k).getD j 0 - G.nk).toNat=y)=>zrg h hk ha hj hx hD hy)
 have Hop:=zaa (zri hF)
 have Hsh:=zaa (fun(n:Nat) (C:Nat→Int→Bool) (W:Nat→List Nat) (h:FlI G (Dn k 0) n C W) (hn:n≤nW+64)=>zrf h hn)
 have Hlen:=zaa hF.l
 have HJd:Hid (∀ (K:FwK) (bl pre:List (Int × Int)) (V:World),FwJ G K w5 k nW bl pre V↔∃ C W S D em,FwI K C W S D em V∧Below K.M w5 V∧(∀ r,(W r).length≤nW+pre.length)∧(pre <+: bl→FlI G (Dn k ((rhs G k).length - pre.length)) (nW+pre.length) C W∧BeI G (rhs G k) ((rhs G k).length - pre.length) D em)):=zaa (fun _ _ _ _=>Iff.rfl)
 clear hF ha hpl
 generalize lhs G k=l at *
 generalize rhs G k=prt at *
 obtain⟨WA,hWA⟩:∃ WA,WA=(((w.alloc (.cells #[.pointer (some ⟨bb,0,none⟩)] 57)).alloc (.cells #[.int .i64 (l:Nat),.slice rr prt.length rrc,.int .i64 plv,.int .i64 x3,.int .i64 x4,.string x5,.slice x6 n6 c6] 89)).alloc (.cells #[.slice (some ⟨tb,0,none⟩) G.rules.length tc] 62)).alloc (.cells #[.slice (some ⟨wb,0,none⟩) G.rules.length wcp] 109):=⟨_,rfl⟩
 obtain⟨hbA,hsA,a1,a2,a3,a4⟩:=zpA w _ _ _ _ 57 89 62 109 hWA
 refine(callsIn_wide (n:=20)).1 ?_
 refine callsIn_of_wp_marks Tryz.func90 rfl trivial ?_ rfl
 simp only[Tryz.ntmps90,List.size_toArray,List.length_cons,List.length_nil,Nat.reduceAdd,Nat.reduceSub,Array.replicate_succ,Array.replicate_zero,List.push_toArray,List.append_toArray,List.nil_append,List.cons_append]
 have Hc0:=zaa hc0;have Hbg:=zaa hbg;have Hrr:=zaa hrr;have Hw:=zaa hw;have Hst:=zaa hst0;have Htab:=zaa htab;have HA:=zaa (And.intro hbA (And.intro hsA (And.intro a1 (And.intro a2 (And.intro a3 a4)))))
 clear hc0 hbg hrr hw hst0 htab hV0 hV0M hbA hsA a1 a2 a3 a4
 gi_wp2_with fail
 rw[← hWA]
 clear hWA
 refine⟨trivial,(callsIn_wide.2 (zcB WA)).mono ?_⟩
 rintro e1 w1 ⟨rfl,hb1,hlt1,hs1⟩
 have hbA:=(uh HA).1;have hsA:=(uh HA).2.1;have a1:=(uh HA).2.2.1;have a2:=(uh HA).2.2.2.1;have a3:=(uh HA).2.2.2.2.1;have a4:=(uh HA).2.2.2.2.2
 obtain⟨W2,hW2⟩:∃ W2,W2=(w1.alloc (.cells #[.pointer (some ⟨WA.heap.size,0,none⟩)] 75)).alloc (.cells #[.bool true] 4):=⟨_,rfl⟩
 have hb2:Below w1.heap.size w1 W2:=by rw[hW2];exact((Below.refl _ _).alloc (Nat.le_refl _) _).alloc (by simp) _
 have hb1':Below WA.heap.size WA W2:=hb1.trans (zab hb2 hb1.size)
 have hk1:∀ {b:Nat} {o:Obj},WA.heap[b]? = some o→W2.heap[b]? = some o:=fun {b o} h=>(hb1'.block _ (Array.getElem?_eq_some_iff.1 h).1).trans h
 have a5:W2.heap[w1.heap.size]? = some (.cells #[.pointer (some ⟨WA.heap.size,0,none⟩)] 75 (0,0)):=by rw[hW2,Below.heap_alloc _ _ _ (by simp)];exact Go.Deep.blk_alloc_new _ _
 have a6:W2.heap[w1.heap.size+1]? = some (.cells #[.bool true] 4 (0,0)):=by
  have:=Go.Deep.blk_alloc_new (w1.alloc (.cells #[.pointer (some ⟨WA.heap.size,0,none⟩)] 75)) (.cells #[.bool true] 4 (0,0))
  rw[World.size_alloc] at this
  rw[hW2];exact this
 have hs2:W2.heap.size=w1.heap.size+1+1:=by rw[hW2];simp
 have c1:W2.cell? ⟨w.heap.size+1,1,none⟩=some (.slice rr prt.length rrc):=by unfold World.cell?;rw[hk1 a2];rfl
 rw[hW2] at c1
 have HB:=zaa (And.intro hb1 (And.intro hb1' (And.intro a5 (And.intro a6 (And.intro hs1 hb2)))))
 have Ha1:=zaa (hk1 a1);have Ha2:=zaa (hk1 a2);have Ha3:=zaa (hk1 a3);have Ha4:=zaa (hk1 a4)
 have Hs2:=zaa hs2;have HsA:=zaa hsA
 clear hb1 hs1 hb1' a5 a6 hb2 hk1 hbA hsA a1 a2 a3 a4 hs2
 gi_wp2_with fail
 rw[← hW2]
 clear hW2
 refine⟨trivial,(callsIn_wide.2 (ziY rr prt.length rrc W2)).mono ?_⟩
 rintro e2 W3 ⟨rfl,hW3⟩
 gi_wp2_with fail
 obtain⟨hb1,hb1',a5,a6,hs1,hb2⟩:=uh HB
 have hs2:=uh Hs2
 have hsA:=uh HsA
 have hb3:Below W2.heap.size W2 W3:=by rw[hW3];exact(Below.refl _ _).alloc (Nat.le_refl _) _
 have a7:W3.heap[W2.heap.size]? = some (.cells #[.slice rr prt.length rrc] 27 (0,0)):=by rw[hW3];exact Go.Deep.blk_alloc_new _ _
 have hbA:=(uh HA).1
 have hbw3:Below w.heap.size w W3:=(hbA.trans (zab hb1' hbA.size)).trans (zab hb3 (by have:=hbA.size;have:=hb1'.size;omega))
 have hbs3:Below w1.heap.size w1 W3:=hb2.trans (zab hb3 (by omega))
 have hk3':∀ {b:Nat} {o:Obj},W2.heap[b]? = some o→W3.heap[b]? = some o:=fun {b o} h=>(hb3.block _ (Array.getElem?_eq_some_iff.1 h).1).trans h
 have hs3:=hb3.size
 have h1s:=hb1.size
 obtain⟨KK,hKK⟩:∃ KK:FwK,KK=(⟨w5.heap.size,G.rules.length,tb,wb,W2.heap.size,A,.slice rr prt.length rrc,w.heap.size,w.heap.size+1,w.heap.size+1+1,w.heap.size+1+1+1,w1.heap.size,w1.heap.size+1,.pointer (some ⟨bb,0,none⟩),#[.int .i64 (l:Nat),.slice rr prt.length rrc,.int .i64 plv,.int .i64 x3,.int .i64 x4,.string x5,.slice x6 n6 c6],.slice (some ⟨tb,0,none⟩) G.rules.length tc,.slice (some ⟨wb,0,none⟩) G.rules.length wcp⟩:FwK):=⟨_,rfl⟩
 have hFw0:FwI KK C W WA.heap.size (fun _=>false) true W3:=by
  rw[hKK]
  have hS3:=zbK hs1 hbs3
  exact⟨⟨OO0,_,zbb (uh Hst) hbw3,hS3,fun q hq=>by have hq:q=WA.heap.size:=hq;show w5.heap.size≤q;omega,fun q hq m hm ho=>by have hm:m=WA.heap.size:=hm;have:=zbT ((uh Hst).set q hq) ho;omega⟩,zdZ (uh Htab) hbw3,a7,hk3' (uh Ha1),hk3' (uh Ha2),hk3' (uh Ha3),hk3' (uh Ha4),hk3' a5,hk3' a6,by show w5.heap.size≤w1.heap.size;omega,by show w5.heap.size≤w1.heap.size+1;omega,by show wb≠W2.heap.size;omega,by show tb≠w1.heap.size;omega,by show w5.heap.size≤W3.heap.size;omega⟩
 have hbw5:Below w5.heap.size w5 W3:=(uh Hw).trans (zab hbw3 hszw)
 have hMK:KK.M=w5.heap.size:=by rw[hKK]
 have hBsK:KK.Bs=W2.heap.size:=by rw[hKK]
 have hCb:∀ q,(fun k=>k=W2.heap.size∨k<w5.heap.size) q→q<KK.M∨q=KK.Bs:=by
  rintro q (rfl | hq)
  ·exact .inr hBsK.symm
  ·exact .inl (by rw[hMK];exact hq)
 have hseq:=zn5 (α:={p:Int × Int // 1≤p.2∧p.2<((G.nk+G.nr:Nat):Int)}) Subtype.val ((zb7 prt).attachWith _ (fun p hp=>hpy _ (zn8 hp))) Fence.wide 19 trivial rfl (by omega) W2.heap.size rr rrc (fun k=>k=W2.heap.size∨k<w5.heap.size) prt (zlY _) (by omega) W3 (Array.getElem?_eq_some_iff.1 a7).1 (.inl rfl) (by unfold World.cell?;rw[a7];rfl) (by
  rcases uh Hrr with h | ⟨b9,o9,h1,h2,h3⟩
  ·exact .inl h
  ·exact .inr ⟨b9,o9,h1,by have:=hbw5.size;omega,.inr h2,fun j hj=>(hbw5.cell (p:=⟨b9,o9+j,none⟩) h2).trans (h3 j hj)⟩)
 have hJ0:FwJ G KK w5 k nW (zb7 prt) (([]:List {p:Int × Int // 1≤p.2∧p.2<((G.nk+G.nr:Nat):Int)}).map Subtype.val) W3:=(uh HJd _ _ _ _).2 ⟨C,W,_,_,_,hFw0,by rw[hMK];exact hbw5,fun r=>uh Hlen r,fun _=>⟨uh Hop,be_end G prt⟩⟩
 have Hseq:=zaa hseq;have HJ0:=zaa hJ0;have HCb:=zaa hCb
 have hb3s:=hb3.size
 clear hseq hJ0 hCb hFw0 a7 hb1 hb1' a5 a6 hs1 hb2 hb3 hbA hbw3 hbs3 hk3' hbw5 hs2 hsA HB Ha1 Ha2 Ha3 Ha4 HA Hst Htab Hop Hlen
 rw[← hW3]
 clear hW3
 have hAK:KK.A=A:=by rw[hKK]
 have hnK:KK.n=G.rules.length:=by rw[hKK]
 have HxK:Hid (KK.hx=w1.heap.size∧KK.ex=w1.heap.size+1):=zaa (by rw[hKK];exact⟨rfl,rfl⟩)
 have hwbK:KK.wb=wb:=by rw[hKK]
 have Hm:Hid (∀ C W S D em V,FwI KK C W S D em V→V.cell? ⟨w.heap.size,0,none⟩=some (.pointer (some ⟨bb,0,none⟩))∧V.cell? ⟨w.heap.size+1,0,none⟩=some (.int .i64 (l:Nat))∧V.cell? ⟨w.heap.size+1+1,0,none⟩=some (.slice (some ⟨tb,0,none⟩) G.rules.length tc)∧V.cell? ⟨w.heap.size+1+1+1,0,none⟩=some (.slice (some ⟨wb,0,none⟩) G.rules.length wcp)∧V.cell? ⟨w1.heap.size,0,none⟩=some (.pointer (some ⟨S,0,none⟩))∧V.cell? ⟨w1.heap.size+1,0,none⟩=some (.bool em)∧V.frozen? ⟨w1.heap.size,0,none⟩=false∧V.frozen? ⟨w1.heap.size+1,0,none⟩=false∧∀ y,y<G.rules.length→V.cell? ⟨tb,y,none⟩=some (.pointer (some ⟨A y,0,none⟩))):=zaa (fun C W S D em V h=>by
  subst hKK
  obtain⟨OO,O1,h1,-,-,-⟩:=h.st
  have g1:V.heap[w.heap.size]? = _:=h.b1
  have g2:V.heap[w.heap.size+1]? = _:=h.b2
  have g3:V.heap[w.heap.size+1+1]? = _:=h.b3
  have g4:V.heap[w.heap.size+1+1+1]? = _:=h.b4
  have g5:V.heap[w1.heap.size]? = _:=h.b5
  have g6:V.heap[w1.heap.size+1]? = _:=h.b6
  refine⟨by unfold World.cell?;rw[g1];rfl,by unfold World.cell?;rw[g2];rfl,by unfold World.cell?;rw[g3];rfl,by unfold World.cell?;rw[g4];rfl,by unfold World.cell?;rw[g5];rfl,by unfold World.cell?;rw[g6];rfl,by unfold World.frozen?;rw[g5];rfl,by unfold World.frozen?;rw[g6];rfl,fun y hy=>(zb1 h1 hy).1⟩)
 obtain⟨OO9,rep9,C9,hs9,hC9⟩:=(uh Hbg).st
 have HM9:Hid (∀ y,y<G.rules.length→∀ q,OO9 (rep9 y) q→q<KK.M):=zaa (fun y hy q hq=>by rw[hMK];exact zbT (hs9.set _ (hs9.rp y hy)) hq)
 have HF9:=zaa hC9
 have Hn:Hid (∀ V,Below KK.M w5 V→V.cell? ⟨bb,0,none⟩=some (.pointer (some ⟨gb,0,none⟩))∧V.cell? ⟨bb,1,none⟩=some (.slice (some ⟨nb,0,none⟩) G.rules.length G.rules.length)∧V.cell? ⟨bb,2,none⟩=some (.slice (some ⟨sb,0,none⟩) G.rules.length sc)∧V.cell? ⟨gb,0,none⟩=some (.slice ka G.kinds.length kc)∧(∀ y,y<G.rules.length→V.cell? ⟨nb,y,none⟩=some (.bool (zaO G y)))∧∀ y,y<G.rules.length→V.cell? ⟨sb,y,none⟩=some (.pointer (some ⟨A2 (rep9 y),0,none⟩))∧SetN V (A2 (rep9 y)) (OO9 (rep9 y)) (C9 (rep9 y))):=zaa (fun V hV=>by
  rw[hMK] at hV
  have hbg:=zcf (uh Hbg) hV
  have h1':=zbb hs9 hV
  exact⟨by unfold World.cell?;rw[hbg.bx];rfl,by unfold World.cell?;rw[hbg.bx];rfl,by unfold World.cell?;rw[hbg.bx];rfl,(hV.cell (p:=⟨gb,0,none⟩) (World.block_lt_of_cell? w5 _ (uh Hc0))).trans (uh Hc0),fun y hy=>hbg.nu.cell hy,fun y hy=>⟨(zb1 h1' hy).1,h1'.set _ (h1'.rp y hy)⟩⟩)
 clear hs9 hC9
 have Hjoin:Hid (∀ C W S D em V y,FwI KK C W S D em V→y<G.rules.length→Calls Tryz.prog 94 #[.pointer (some ⟨A y,0,none⟩),.pointer (some ⟨S,0,none⟩)] V (fun e V'=>(∃ c,e=.returned (.int .i64 c))∧FwI KK (upC C y (orF (C y) D)) W S D em V'∧Fr (Mv KK V) V V')):=zaa (fun C W S D em V y h hy=>by
  have:=zrc h (y:=y) (by rw[hnK];exact hy)
  rw[hAK] at this
  exact this)
 have HCb2:Hid (∀ Y Z,Fr (Mv KK Y) Y Z→KeepsFrom W3.heap.size Y Z∧zgG (fun k=>k=W2.heap.size∨k<w5.heap.size) Y Z):=zaa (fun Y Z h=>⟨ziD h,zo8 h (uh HCb)⟩)
 have Hbl:Hid (∀ Y Z,Fr (Mv KK Y) Y Z→Below KK.M w5 Y→Below KK.M w5 Z):=zaa (fun Y Z h hY=>hY.trans (zo9 h (by have:=hY.size;rw[hMK];rw[hMK] at hY;exact hY.size)))
 have Hway:Hid (∀ C W S D em V (Vv:Nat→Value) (O':Nat→Prop) (W':Nat→List Nat) (V':World),FwI KK C W S D em V→(TabV (zaA G.rules.length wb Vv) V wb G.rules.length Vv (fun r=>zai (W r))∧∀ k,zaA G.rules.length wb Vv k→KK.M≤k)→Fr (zaA G.rules.length wb Vv) V V'→zb8 O' V' wb G.rules.length (fun r=>zai (W' r))→(∀ k,O' k→zaA G.rules.length wb Vv k∨V.heap.size≤k)→FwI KK C W' S D em V'∧Fr (Mv KK V) V V'):=zaa (fun C W S D em V Vv O' W' V' h1 h2 h3 h4 h5=>by
  have:=fw_way (V:=Vv) (O':=O') (W':=W') (w':=V') h1 (by rw[hnK,hwbK];exact h2) (by rw[hnK,hwbK];exact h3) (by rw[hnK,hwbK];exact h4) (by rw[hnK,hwbK];exact h5)
  exact this)
 have Htab2:Hid (∀ C W S D em V,FwI KK C W S D em V→∃ Vv,TabV (zaA G.rules.length wb Vv) V wb G.rules.length Vv (fun r=>zai (W r))∧∀ k,zaA G.rules.length wb Vv k→KK.M≤k):=zaa (fun C W S D em V h=>by
  have:=h.tab
  rw[hnK,hwbK] at this
  exact this)
 refine wpIn_rangeFunc_ownH rfl (by omega) (gf:=150) (lb:=#[.pointer (some ⟨W2.heap.size,0,none⟩)]) rfl trivial (enters_of Tryz.func150 (by kernel_rfl) rfl) (uh Hseq) zno zq8 (Below.refl _ _) (fun _=>rfl)
  (fun(pre:List {p:Int × Int // 1≤p.2∧p.2<((G.nk+G.nr:Nat):Int)}) V=>FwJ G KK w5 k nW (zb7 prt) (pre.map Subtype.val) V)
  (fun _ _ _=>False)
  (zrd (by rw[hMK];have:=uh Hs2;have:=uh HsA;omega) _)
  (fun c s X Y row hs hg hr=>hs)
  (uh HJ0)
  (fun x a' _=>a'={ tmps:=#[.pointer (some ⟨bb,0,none⟩),.agg #[.int .i64 (l:Nat),.slice rr prt.length rrc,.int .i64 plv,.int .i64 x3,.int .i64 x4,.string x5,.slice x6 n6 c6],.slice (some ⟨tb,0,none⟩) G.rules.length tc,.slice (some ⟨wb,0,none⟩) G.rules.length wcp,.pointer (some ⟨w.heap.size,0,none⟩),.pointer (some ⟨w.heap.size+1,0,none⟩),.pointer (some ⟨w.heap.size+1+1,0,none⟩),.pointer (some ⟨w.heap.size+1+1+1,0,none⟩),.pointer (some ⟨w1.heap.size,0,none⟩),.pointer (some ⟨w1.heap.size+1,0,none⟩),undef,.int .i64 x.val.2,undef,undef,.pointer (some ⟨WA.heap.size,0,none⟩),.pointer (some ⟨w.heap.size+1,1,none⟩),.slice rr prt.length rrc,.func (.func 150) #[] #[.pointer (some ⟨W2.heap.size,0,none⟩)],.int .i64 x.val.1,.int .i64 x.val.2,undef,undef,undef,undef,undef,undef,undef,undef,undef,undef,undef,undef,undef,undef,undef,undef,undef,undef,undef,undef,undef,undef,undef,undef,undef,undef,undef,undef,undef,undef,undef,undef,undef,undef,undef,undef,undef,undef,undef,undef,undef,undef,undef,undef,undef,undef,undef,undef,undef,undef,undef,undef,undef,undef,undef,undef,undef,undef],defers:=[] })
  (fun _ _ _ _ _ _ hs _ _=>hs)
  ?assign ?body ?done ?stop
 case assign =>
  clear hMK hBsK hKK
  rintro l0 pre x V K hi hK
  gi_wp2
  exact hK _ _ (KeepsFrom.refl _ _) (zg3 _ _) hi rfl
 case stop =>
  rintro D c pre V _ _ h
  exact h.elim
 case done =>
  rintro Dd xs V hD rfl hJ hKd
  obtain⟨C9,W9,S9,D9,em9,hI,hbV,hlW,hc⟩:=(uh HJd _ _ _ _).1 hJ
  rw[zlY] at hlW hc
  have hbl:(zb7 prt).length=prt.length:=zcX prt
  obtain⟨hF9,-⟩:=hc (List.prefix_refl _)
  rw[hbl,Nat.sub_self] at hF9
  have hF10:=uh Hsh _ _ _ hF9 (by omega)
  have Hpost:Hid (∀ o',zom G w5.heap.size w5 k nW tb wb A (V.putObj Dd o')):=zaa (fun o'=>by
   have hg:=grownBy_putObj' V Dd o'
   have hI2:=zjK (O:=fun q=>some Dd=some q) hI ⟨hg.size,fun q hq ho=>hg.block q hq (fun e=>ho e.symm),hg.os,hg.tape,hg.output⟩ (fun q cs t ho hq=>by
    cases ho
    rw[hKd] at hq;cases hq)
   obtain⟨OO9,O9,h1,-,-,-⟩:=hI2.st
   have h2:=hI2.tab
   rw[hKK] at h1 h2
   refine⟨C9,W9,hF10,⟨OO9,h1⟩,h2,?_⟩
   rw[hMK] at hbV
   exact hbV.grown hg (by have:=hbV.size;omega) (fun j hj=>by cases hj;have:=uh Hs2;have:=uh HsA;omega))
  clear hI hbV hlW hc hF9 hF10 hJ
  clear hMK hBsK hKK
  gi_wp2
  refine⟨by simp,.inl ⟨_,_,rfl,run_takeDeferred hKd,?_⟩⟩
  exact⟨_,results_none rfl _ _ _,⟨_,rfl⟩,uh Hpost _⟩
 case body =>
  rintro l0 pre x a' V hl0 ⟨r,hr⟩ hJ rfl hpl
  obtain⟨C,W,S,D,em,hI,hbV,hlW,hc⟩:=(uh HJd _ _ _ _).1 hJ
  obtain⟨⟨xi,xv⟩,hx1,hx2⟩:=x
  simp only at hx1 hx2
  have hlm:(pre.map Subtype.val).length=pre.length:=List.length_map _
  rw[hlm] at hlW hc
  obtain⟨j,hj⟩:∃ j,prt.length=pre.length+1+j:=⟨prt.length - pre.length - 1,by omega⟩
  have Hcond:Hid (((pre ++ [(⟨(xi,xv),hx1,hx2⟩:{p:Int × Int // 1≤p.2∧p.2<((G.nk+G.nr:Nat):Int)})]).map Subtype.val <+: zb7 prt)→FlI G (Dn k (j+1)) (nW+pre.length) C W∧BeI G prt (j+1) D em∧prt.getD j 0=xv∧j<prt.length):=zaa (fun h=>by
   obtain⟨h1,h2,h3⟩:=zn7 Subtype.val h
   obtain⟨h4,h5⟩:=hc h1
   have e:prt.length - pre.length=j+1:=by omega
   rw[e] at h4 h5
   have e2:prt.length - 1 - pre.length=j:=by omega
   rw[e2] at h3
   exact⟨h4,h5,h3.symm,by omega⟩)
  have Hout:Hid (∀ C' W' S' D' em' V',FwI KK C' W' S' D' em' V'→Fr (Mv KK V) V V'→(∀ r,(W' r).length≤nW+pre.length+1)→(((pre ++ [(⟨(xi,xv),hx1,hx2⟩:{p:Int × Int // 1≤p.2∧p.2<((G.nk+G.nr:Nat):Int)})]).map Subtype.val <+: zb7 prt)→FlI G (Dn k j) (nW+pre.length+1) C' W'∧BeI G prt j D' em')→ownPostG W3.heap.size (zgG (fun k=>k=W2.heap.size∨k<w5.heap.size)) (fun(pre:List {p:Int × Int // 1≤p.2∧p.2<((G.nk+G.nr:Nat):Int)}) V=>FwJ G KK w5 k nW (zb7 prt) (pre.map Subtype.val) V) (fun _ _ _=>False) (pre ++ [(⟨(xi,xv),hx1,hx2⟩:{p:Int × Int // 1≤p.2∧p.2<((G.nk+G.nr:Nat):Int)})]) V .normal { tmps:=#[],defers:=[] } V'):=zaa (fun C' W' S' D' em' V' h1 h2 h3 h4=>by
   have e3:((pre ++ [(⟨(xi,xv),hx1,hx2⟩:{p:Int × Int // 1≤p.2∧p.2<((G.nk+G.nr:Nat):Int)})]).map Subtype.val).length=pre.length+1:=by simp
   refine⟨(uh HCb2 _ _ h2).1,(uh HCb2 _ _ h2).2,(uh HJd _ _ _ _).2 ⟨C',W',S',D',em',h1,uh Hbl _ _ h2 hbV,by rw[e3];exact h3,?_⟩⟩
   rw[e3]
   intro hp
   have e:prt.length - (pre.length+1)=j:=by omega
   rw[e]
   exact h4 hp)
  obtain⟨m1,m2,m3,m4,m5,m6,m7,m8,m9⟩:=uh Hm _ _ _ _ _ _ hI
  obtain⟨n1,n2,n3,n4,n5,n6⟩:=uh Hn _ hbV
  have hpl64:pre.length≤64:=by omega
  have HR:=zaa (zeF gb xv G.kinds.length ka kc hk3 (by unfold Gm.nk Gm.nr at hx2;omega) V n4)
  have HI:=zaa hI;have HbV:=zaa hbV;have HlW:=zaa hlW
  clear hI hbV hlW hc hJ hr hlm hj
  unfold Gm.nk Gm.nr at hx2
  by_cases hru:(G.kinds.length:Int)≤xv
  · rw [if_pos hru, decide_eq_true hru] at HR
    obtain⟨y,hy⟩:∃ y:Nat,xv - G.kinds.length=(y:Int):=⟨(xv - G.kinds.length).toNat,by omega⟩
    have hyn:y<G.rules.length:=by omega
    have hyn':(y:Int)<G.rules.length:=by omega
    have ey:(xv - G.nk).toNat=y:=by show (xv - (G.kinds.length:Nat)).toNat=y;omega
    have hnx:(G.nk:Int)≤xv:=hru
    have m9y:=m9 y hyn
    have Hfl:Hid (((pre ++ [(⟨(xi,xv),hx1,hx2⟩:{p:Int × Int // 1≤p.2∧p.2<((G.nk+G.nr:Nat):Int)})]).map Subtype.val <+: zb7 prt)→FlI G (Dn k j) (nW+pre.length+1) (upC C y (orF (C y) D)) (if em then upW W y l else W)):=zaa (fun hp=>by
      obtain⟨h1,h2,h3,h4⟩:=uh Hcond hp
      exact uh Hrl j _ y C W D em h1 h4 (by rw[h3];exact hnx) h2 (by rw[h3];exact ey))
    have Hbe:Hid (((pre ++ [(⟨(xi,xv),hx1,hx2⟩:{p:Int × Int // 1≤p.2∧p.2<((G.nk+G.nr:Nat):Int)})]).map Subtype.val <+: zb7 prt)→BeI G prt (j+1) D em∧prt.getD j 0=xv∧j<prt.length):=zaa (fun hp=>(uh Hcond hp).2)
    rw[hy] at HR
    clear Hcond n5 n6 m9
    gi_wp2_with fail
    refine⟨trivial,(CallsIn.inRound l0 (callsIn_wide.2 (uh HR))).mono ?_⟩
    rintro e w9 ⟨rfl,rfl⟩
    gi_wp2_with fail
    refine zay (S:=(fun U:World=>U.cell? ⟨w.heap.size+1+1,0,none⟩=some (.slice (some ⟨tb,0,none⟩) G.rules.length tc)∧U.cell? ⟨tb,y,none⟩=some (.pointer (some ⟨A y,0,none⟩))∧U.cell? ⟨w1.heap.size,0,none⟩=some (.pointer (some ⟨S,0,none⟩)))) (by kernel_rfl) (by kernel_rfl) (by exact⟨m3,m9y,m5⟩) (fun hH_=>?_)
    refine zac (i:=0) (dst:=some 30) (v:=?_) rfl rfl (by kernel_rfl) (by kernel_rfl) (by kernel_rfl) (fun _ _ _ h=>h) (Or.inl ⟨by rfl,?_⟩) hH_ ?_
    rotate_left
    · intro w hSw;obtain⟨k0,k1,k2⟩:=hSw;go_simp;try (with_reducible rfl)
    simp only[Act.put,zsA,zsB,zsC]
    refine zac (i:=1) (dst:=some 31) (v:=?_) rfl rfl (by kernel_rfl) (by kernel_rfl) (by kernel_rfl) (fun _ _ _ h=>h) (Or.inl ⟨by rfl,?_⟩) hH_ ?_
    rotate_left
    · intro w hSw;obtain⟨k0,k1,k2⟩:=hSw;go_simp;try (with_reducible rfl)
    simp only[Act.put,zsA,zsB,zsC]
    refine zac (i:=2) (dst:=some 32) (v:=?_) rfl rfl (by kernel_rfl) (by kernel_rfl) (by kernel_rfl) (fun _ _ _ h=>h) (Or.inl ⟨by rfl,?_⟩) hH_ ?_
    rotate_left
    · intro w hSw;obtain⟨k0,k1,k2⟩:=hSw;go_simp;try (with_reducible rfl)
    simp only[Act.put,zsA,zsB,zsC]
    refine zac (i:=3) (dst:=some 33) (v:=?_) rfl rfl (by kernel_rfl) (by kernel_rfl) (by kernel_rfl) (fun _ _ _ h=>h) (Or.inl ⟨by rfl,?_⟩) hH_ ?_
    rotate_left
    · intro w hSw;obtain⟨k0,k1,k2⟩:=hSw;go_simp;try (with_reducible rfl)
    simp only[Act.put,zsA,zsB,zsC]
    refine zac (i:=4) (dst:=some 34) (v:=?_) rfl rfl (by kernel_rfl) (by kernel_rfl) (by kernel_rfl) (fun _ _ _ h=>h) (Or.inl ⟨by rfl,?_⟩) hH_ ?_
    rotate_left
    · intro w hSw;obtain⟨k0,k1,k2⟩:=hSw;go_simp;try (with_reducible rfl)
    simp only[Act.put,zsA,zsB,zsC]
    refine wpAnyH_ready (rs:=[5]) (by kernel_rfl) (by simp) ?_
    refine AllReadyH.cons rfl (fun K hK=>?_) AllReadyH.nil
    go_simp
    refine(uh Hjoin _ _ _ _ _ _ _ (zbL (uh HI) (Below.refl _ _).drew) hyn).mono ?_
    rintro e V6 ⟨⟨cj6,rfl⟩,hI6,hf6⟩
    have hf6:Fr (Mv KK V) V V6:=hf6
    have hq6:=uh Hm _ _ _ _ _ _ hI6
    go_wp2_with fail
    refine hK.out _ _ (⟨hq6.2.2.1,hq6.2.2.2.2.2.2.2.2 y hyn,hq6.2.2.2.2.1⟩) (fun hH_=>?_)
    clear hK K
    refine wpAnyH_done (by kernel_rfl) ?_ _
    refine OnlyN.mk ?_
    have HI6:=zaa hI6;have Hf6:=zaa hf6;have Hb6:=zaa (uh Hbl _ _ hf6 (uh HbV))
    clear hI6 hf6 HI hH_ m1 m2 m3 m4 m5 m6 m7 m8 n1 n2 n3 n4
    obtain⟨m1,m2,m3,m4,m5,m6,m7,m8,-⟩:=hq6
    cases em with
    | false =>
      have Hfl2:Hid (((pre ++ [(⟨(xi,xv),hx1,hx2⟩:{p:Int × Int // 1≤p.2∧p.2<((G.nk+G.nr:Nat):Int)})]).map Subtype.val <+: zb7 prt)→FlI G (Dn k j) (nW+pre.length+1) (upC C y (orF (C y) D)) W):=zaa (fun hp=>uh Hfl hp)
      have HIn:=HI6;have Hfn:=Hf6;have Hbn:=Hb6
      obtain⟨p1,p2,p3,p4,p5,p6,p7,p8,-⟩:=uh Hm _ _ _ _ _ _ (uh HIn)
      obtain⟨q1,q2,q3,q4,q5,q6⟩:=uh Hn _ (uh Hbn)
      have q5y:=q5 y hyn
      clear m1 m2 m3 m4 m5 m6 m7 m8 q5
      cases hnu:zaO G y with
      | true =>
        rw[hnu] at q5y
        gi_wp2_with fail
        refine zay (S:=(fun U:World=>U.cell? ⟨w1.heap.size,0,none⟩=some (.pointer (some ⟨S,0,none⟩))∧U.cell? ⟨w.heap.size,0,none⟩=some (.pointer (some ⟨bb,0,none⟩))∧U.cell? ⟨bb,2,none⟩=some (.slice (some ⟨sb,0,none⟩) G.rules.length sc)∧U.cell? ⟨sb,y,none⟩=some (.pointer (some ⟨A2 (rep9 y),0,none⟩)))) (by kernel_rfl) (by kernel_rfl) (by exact⟨p5,p1,q3,(q6 y hyn).1⟩) (fun hH_=>?_)
        refine zac (i:=0) (dst:=some 65) (v:=?_) rfl rfl (by kernel_rfl) (by kernel_rfl) (by kernel_rfl) (fun _ _ _ h=>h) (Or.inl ⟨by rfl,?_⟩) hH_ ?_
        rotate_left
        · intro w hSw;obtain⟨k0,k1,k2,k3⟩:=hSw;go_simp;try (with_reducible rfl)
        simp only[Act.put,zsA,zsB,zsC]
        refine zac (i:=1) (dst:=some 66) (v:=?_) rfl rfl (by kernel_rfl) (by kernel_rfl) (by kernel_rfl) (fun _ _ _ h=>h) (Or.inl ⟨by rfl,?_⟩) hH_ ?_
        rotate_left
        · intro w hSw;obtain⟨k0,k1,k2,k3⟩:=hSw;go_simp;try (with_reducible rfl)
        simp only[Act.put,zsA,zsB,zsC]
        refine zac (i:=2) (dst:=some 67) (v:=?_) rfl rfl (by kernel_rfl) (by kernel_rfl) (by kernel_rfl) (fun _ _ _ h=>h) (Or.inl ⟨by rfl,?_⟩) hH_ ?_
        rotate_left
        · intro w hSw;obtain⟨k0,k1,k2,k3⟩:=hSw;go_simp;try (with_reducible rfl)
        simp only[Act.put,zsA,zsB,zsC]
        refine zac (i:=3) (dst:=some 68) (v:=?_) rfl rfl (by kernel_rfl) (by kernel_rfl) (by kernel_rfl) (fun _ _ _ h=>h) (Or.inl ⟨by rfl,?_⟩) hH_ ?_
        rotate_left
        · intro w hSw;obtain⟨k0,k1,k2,k3⟩:=hSw;go_simp;try (with_reducible rfl)
        simp only[Act.put,zsA,zsB,zsC]
        refine zac (i:=4) (dst:=some 69) (v:=?_) rfl rfl (by kernel_rfl) (by kernel_rfl) (by kernel_rfl) (fun _ _ _ h=>h) (Or.inl ⟨by rfl,?_⟩) hH_ ?_
        rotate_left
        · intro w hSw;obtain⟨k0,k1,k2,k3⟩:=hSw;go_simp;try (with_reducible rfl)
        simp only[Act.put,zsA,zsB,zsC]
        refine zac (i:=5) (dst:=some 70) (v:=?_) rfl rfl (by kernel_rfl) (by kernel_rfl) (by kernel_rfl) (fun _ _ _ h=>h) (Or.inl ⟨by rfl,?_⟩) hH_ ?_
        rotate_left
        · intro w hSw;obtain⟨k0,k1,k2,k3⟩:=hSw;go_simp;try (with_reducible rfl)
        simp only[Act.put,zsA,zsB,zsC]
        refine zac (i:=6) (dst:=some 71) (v:=?_) rfl rfl (by kernel_rfl) (by kernel_rfl) (by kernel_rfl) (fun _ _ _ h=>h) (Or.inl ⟨by rfl,?_⟩) hH_ ?_
        rotate_left
        · intro w hSw;obtain⟨k0,k1,k2,k3⟩:=hSw;go_simp;try (with_reducible rfl)
        simp only[Act.put,zsA,zsB,zsC]
        refine zac (i:=7) (dst:=some 72) (v:=?_) rfl rfl (by kernel_rfl) (by kernel_rfl) (by kernel_rfl) (fun _ _ _ h=>h) (Or.inl ⟨by rfl,?_⟩) hH_ ?_
        rotate_left
        · intro w hSw;obtain⟨k0,k1,k2,k3⟩:=hSw;go_simp;try (with_reducible rfl)
        simp only[Act.put,zsA,zsB,zsC]
        refine wpAnyH_ready (rs:=[8]) (by kernel_rfl) (by simp) ?_
        refine AllReadyH.cons rfl (fun K hK=>?_) AllReadyH.nil
        go_simp
        refine(zee (zbL (uh HIn) (Below.refl _ _).drew) (zbK (q6 y hyn).2 (Below.refl _ _).drew) (uh HM9 y hyn)).mono ?_
        rintro e V12 ⟨⟨c12,rfl⟩,hI12,hf12⟩
        have hf12:Fr (Mv KK V6) V6 V12:=hf12
        have hp12:=uh Hm _ _ _ _ _ _ hI12
        have hb12:=uh Hbl _ _ hf12 (uh Hbn)
        have hq12:=uh Hn _ hb12
        go_wp2_with fail
        refine hK.out _ _ (⟨hp12.2.2.2.2.1,hp12.1,hq12.2.2.1,(hq12.2.2.2.2.2 y hyn).1⟩) (fun hH_=>?_)
        clear hK K
        refine wpAnyH_done (by kernel_rfl) ?_ _
        refine OnlyN.mk ?_
        have HI12:=zaa hI12;have Hf12:=zaa (zlR (uh Hfn) hf12)
        clear hI12 hf12 hp12 hq12 hH_ hb12
        gi_wp2
        exact uh Hout _ _ _ _ _ _ (uh HI12) (uh Hf12) (fun r=>by have:=uh HlW r;omega) (fun hp=>⟨uh Hfl2 hp,by
          obtain⟨h1,h2,h3⟩:=uh Hbe hp
          refine zjS h1 h3 (by rw[h2];exact hnx) (by rw[h2,ey];exact hnu) (fun m=>?_)
          rw[h2,ey];exact uh HF9 y hyn m⟩)
      | false =>
        rw[hnu] at q5y
        gi_wp2_with fail
        refine⟨trivial,(CallsIn.inRound l0 (callsIn_wide.2 (zcB V6))).mono ?_⟩
        rintro e V10 ⟨rfl,hb10,hlt10,hs10⟩
        have hI10:=zbL (uh HIn) hb10
        obtain⟨r1,r2,r3,r4,r5,r6,r7,r8,-⟩:=uh Hm _ _ _ _ _ _ hI10
        have hst10:=zkH hI10 (.pointer (some ⟨V6.heap.size,0,none⟩)) (.bool false)
        obtain⟨hfr10,h10a,h10b⟩:=hst10
        obtain⟨hI11,hf11⟩:=zeR (S':=V6.heap.size) (em':=false) (uh HIn) hb10 hs10 (fun q hq=>by have hq:q=V6.heap.size:=hq;omega) hfr10 h10a h10b
        rw[(uh HxK).1,(uh HxK).2] at hI11 hf11
        have hne10:w1.heap.size≠w1.heap.size+1:=by omega
        have hne11:w1.heap.size+1≠w1.heap.size:=by omega
        have HI11:=zaa hI11;have Hf11:=zaa (zlR (uh Hfn) hf11);have Hb11:=zaa (uh Hbl _ _ hf11 (uh Hbn))
        clear hI11 hf11 hfr10 h10a h10b hI10 hb10 hs10 p1 p2 p3 p4 p5 p6 p7 p8 q1 q2 q3 q4 q6 q5y
        gi_wp2_with fail
        generalize (V10.setCell ⟨w1.heap.size,0,none⟩ (.pointer (some ⟨V6.heap.size,0,none⟩))).setCell ⟨w1.heap.size+1,0,none⟩ (.bool false)=V11 at *
        clear HIn Hfn Hbn
        have HIn:=HI11;have Hfn:=Hf11;have Hbn:=Hb11
        obtain⟨p1,p2,p3,p4,p5,p6,p7,p8,-⟩:=uh Hm _ _ _ _ _ _ (uh HIn)
        obtain⟨q1,q2,q3,q4,q5,q6⟩:=uh Hn _ (uh Hbn)
        refine zay (S:=(fun U:World=>U.cell? ⟨w1.heap.size,0,none⟩=some (.pointer (some ⟨V6.heap.size,0,none⟩))∧U.cell? ⟨w.heap.size,0,none⟩=some (.pointer (some ⟨bb,0,none⟩))∧U.cell? ⟨bb,2,none⟩=some (.slice (some ⟨sb,0,none⟩) G.rules.length sc)∧U.cell? ⟨sb,y,none⟩=some (.pointer (some ⟨A2 (rep9 y),0,none⟩)))) (by kernel_rfl) (by kernel_rfl) (by exact⟨p5,p1,q3,(q6 y hyn).1⟩) (fun hH_=>?_)
        refine zac (i:=0) (dst:=some 65) (v:=?_) rfl rfl (by kernel_rfl) (by kernel_rfl) (by kernel_rfl) (fun _ _ _ h=>h) (Or.inl ⟨by rfl,?_⟩) hH_ ?_
        rotate_left
        · intro w hSw;obtain⟨k0,k1,k2,k3⟩:=hSw;go_simp;try (with_reducible rfl)
        simp only[Act.put,zsA,zsB,zsC]
        refine zac (i:=1) (dst:=some 66) (v:=?_) rfl rfl (by kernel_rfl) (by kernel_rfl) (by kernel_rfl) (fun _ _ _ h=>h) (Or.inl ⟨by rfl,?_⟩) hH_ ?_
        rotate_left
        · intro w hSw;obtain⟨k0,k1,k2,k3⟩:=hSw;go_simp;try (with_reducible rfl)
        simp only[Act.put,zsA,zsB,zsC]
        refine zac (i:=2) (dst:=some 67) (v:=?_) rfl rfl (by kernel_rfl) (by kernel_rfl) (by kernel_rfl) (fun _ _ _ h=>h) (Or.inl ⟨by rfl,?_⟩) hH_ ?_
        rotate_left
        · intro w hSw;obtain⟨k0,k1,k2,k3⟩:=hSw;go_simp;try (with_reducible rfl)
        simp only[Act.put,zsA,zsB,zsC]
        refine zac (i:=3) (dst:=some 68) (v:=?_) rfl rfl (by kernel_rfl) (by kernel_rfl) (by kernel_rfl) (fun _ _ _ h=>h) (Or.inl ⟨by rfl,?_⟩) hH_ ?_
        rotate_left
        · intro w hSw;obtain⟨k0,k1,k2,k3⟩:=hSw;go_simp;try (with_reducible rfl)
        simp only[Act.put,zsA,zsB,zsC]
        refine zac (i:=4) (dst:=some 69) (v:=?_) rfl rfl (by kernel_rfl) (by kernel_rfl) (by kernel_rfl) (fun _ _ _ h=>h) (Or.inl ⟨by rfl,?_⟩) hH_ ?_
        rotate_left
        · intro w hSw;obtain⟨k0,k1,k2,k3⟩:=hSw;go_simp;try (with_reducible rfl)
        simp only[Act.put,zsA,zsB,zsC]
        refine zac (i:=5) (dst:=some 70) (v:=?_) rfl rfl (by kernel_rfl) (by kernel_rfl) (by kernel_rfl) (fun _ _ _ h=>h) (Or.inl ⟨by rfl,?_⟩) hH_ ?_
        rotate_left
        · intro w hSw;obtain⟨k0,k1,k2,k3⟩:=hSw;go_simp;try (with_reducible rfl)
        simp only[Act.put,zsA,zsB,zsC]
        refine zac (i:=6) (dst:=some 71) (v:=?_) rfl rfl (by kernel_rfl) (by kernel_rfl) (by kernel_rfl) (fun _ _ _ h=>h) (Or.inl ⟨by rfl,?_⟩) hH_ ?_
        rotate_left
        · intro w hSw;obtain⟨k0,k1,k2,k3⟩:=hSw;go_simp;try (with_reducible rfl)
        simp only[Act.put,zsA,zsB,zsC]
        refine zac (i:=7) (dst:=some 72) (v:=?_) rfl rfl (by kernel_rfl) (by kernel_rfl) (by kernel_rfl) (fun _ _ _ h=>h) (Or.inl ⟨by rfl,?_⟩) hH_ ?_
        rotate_left
        · intro w hSw;obtain⟨k0,k1,k2,k3⟩:=hSw;go_simp;try (with_reducible rfl)
        simp only[Act.put,zsA,zsB,zsC]
        refine wpAnyH_ready (rs:=[8]) (by kernel_rfl) (by simp) ?_
        refine AllReadyH.cons rfl (fun K hK=>?_) AllReadyH.nil
        go_simp
        refine(zee (zbL (uh HIn) (Below.refl _ _).drew) (zbK (q6 y hyn).2 (Below.refl _ _).drew) (uh HM9 y hyn)).mono ?_
        rintro e V12 ⟨⟨c12,rfl⟩,hI12,hf12⟩
        have hf12:Fr (Mv KK V11) V11 V12:=hf12
        have hp12:=uh Hm _ _ _ _ _ _ hI12
        have hb12:=uh Hbl _ _ hf12 (uh Hbn)
        have hq12:=uh Hn _ hb12
        go_wp2_with fail
        refine hK.out _ _ (⟨hp12.2.2.2.2.1,hp12.1,hq12.2.2.1,(hq12.2.2.2.2.2 y hyn).1⟩) (fun hH_=>?_)
        clear hK K
        refine wpAnyH_done (by kernel_rfl) ?_ _
        refine OnlyN.mk ?_
        have HI12:=zaa hI12;have Hf12:=zaa (zlR (uh Hfn) hf12)
        clear hI12 hf12 hp12 hq12 hH_ hb12
        gi_wp2
        exact uh Hout _ _ _ _ _ _ (uh HI12) (uh Hf12) (fun r=>by have:=uh HlW r;omega) (fun hp=>⟨uh Hfl2 hp,by
          obtain⟨h1,h2,h3⟩:=uh Hbe hp
          refine zjT h3 (by rw[h2];exact hnx) (by rw[h2,ey];exact hnu) (fun m=>?_)
          rw[h2,ey];exact uh HF9 y hyn m⟩)
    | true =>
      have Hfl2:Hid (((pre ++ [(⟨(xi,xv),hx1,hx2⟩:{p:Int × Int // 1≤p.2∧p.2<((G.nk+G.nr:Nat):Int)})]).map Subtype.val <+: zb7 prt)→FlI G (Dn k j) (nW+pre.length+1) (upC C y (orF (C y) D)) (upW W y l)):=zaa (fun hp=>uh Hfl hp)
      obtain⟨Vv,hV,hVM⟩:=uh Htab2 _ _ _ _ _ _ (uh HI6)
      obtain⟨ta,tc9,hVl,tcl,-,-⟩:=zbC hV hyn
      have HVV:=zaa (And.intro hV hVM)
      have g4:V6.heap[w.heap.size+1+1+1]? = some (.cells #[.slice (some ⟨wb,0,none⟩) G.rules.length wcp] 109 (0,0)):=by
        have:=(uh HI6).b4
        rw[hKK] at this
        exact this
      have g2:V6.heap[w.heap.size+1]? = some (.cells #[.int .i64 (l:Nat),.slice rr prt.length rrc,.int .i64 plv,.int .i64 x3,.int .i64 x4,.string x5,.slice x6 n6 c6] 89 (0,0)):=by
        have:=(uh HI6).b2
        rw[hKK] at this
        exact this
      have HS:Hid (∀ W',Fr (zaA G.rules.length wb Vv) V6 W'→(fun U:World=>U.cell? ⟨w.heap.size+1+1+1,0,none⟩=some (.slice (some ⟨wb,0,none⟩) G.rules.length wcp)∧U.cell? ⟨w.heap.size+1,0,none⟩=some (.int .i64 (l:Nat))) W'):=zaa (fun W' hf=>by
        have hno:∀ {k t:Nat} {cs:Array Value},V6.heap[k]? = some (.cells cs t (0,0))→t≠27→t≠3→¬ zaA G.rules.length wb Vv k:=fun {k t cs} hk n1 n2 ho=>by
          obtain⟨ds,u,h3,h4⟩:=zdj hV ho
          rw[hk] at h3
          simp only[Option.some.injEq,Obj.cells.injEq] at h3
          obtain⟨-,rfl,-⟩:=h3
          exact h4.elim n1 n2
        have e1:=(hf.2.1 _ (Array.getElem?_eq_some_iff.1 g4).1 (hno g4 (by decide) (by decide))).trans g4
        have e2:=(hf.2.1 _ (Array.getElem?_eq_some_iff.1 g2).1 (hno g2 (by decide) (by decide))).trans g2
        exact⟨by unfold World.cell?;rw[e1];rfl,by unfold World.cell?;rw[e2];rfl⟩)
      have HFin:Hid (∀ (V':World) (O':Nat→Prop),zb8 O' V' wb G.rules.length (zjf (fun r=>zai (W r)) y (zai (W y) ++ [((l:Nat):Int)]))→Fr (zaA G.rules.length wb Vv) V6 V'→(∀ k,O' k→zaA G.rules.length wb Vv k∨V6.heap.size≤k)→FwI KK (upC C y (orF (C y) D)) (upW W y l) S D true V'∧Fr (Mv KK V6) V6 V'):=zaa (fun V' O' h1 h2 h3=>by
        rw[zgR] at h1
        exact uh Hway _ _ _ _ _ _ Vv O' (upW W y l) V' (uh HI6) (uh HVV) h2 h1 h3)
      have HT:=zaa hV
      have HRow:=zaa (show V6.ownsRow 0 3 1 (.slice ta (zai (W y)).length tc9) (zai (W y)).length (zal (zai (W y))) by rw[← hVl];exact(hV.rows y hyn).1)
      have HVl:=zaa hVl
      have hlen:(zai (W y)).length≤300000:=by rw[zak];have:=uh HlW y;omega
      have hlr:=hyn
      have hF0:Fr (zaA G.rules.length wb Vv) V6 V6:=zav _ _
      obtain⟨i3,hi3,hz30,hz31,hz32⟩:=zao zc0
      generalize hFl:zai (W y)=Fl at *
      clear hV hVM hVl g2 g4 hFl
      gi_wp2_with fail
      refine zay (S:=(fun U:World=>U.cell? ⟨w.heap.size+1+1+1,0,none⟩=some (.slice (some ⟨wb,0,none⟩) G.rules.length wcp)∧U.cell? ⟨w.heap.size+1,0,none⟩=some (.int .i64 (l:Nat)))) (by kernel_rfl) (by kernel_rfl) (uh HS _ hF0) (fun hH_=>?_)
      refine zac (i:=0) (dst:=some 40) (v:=?_) rfl rfl (by kernel_rfl) (by kernel_rfl) (by kernel_rfl) (fun _ _ _ h=>h) (Or.inl ⟨by rfl,?_⟩) hH_ ?_
      rotate_left
      · intro w hSw;obtain⟨k0,k1⟩:=hSw;go_simp;try (with_reducible rfl)
      simp only[Act.put,zsA,zsB,zsC]
      refine zac (i:=1) (dst:=some 41) (v:=?_) rfl rfl (by kernel_rfl) (by kernel_rfl) (by kernel_rfl) (fun _ _ _ h=>h) (Or.inl ⟨by rfl,?_⟩) hH_ ?_
      rotate_left
      · intro w hSw;obtain⟨k0,k1⟩:=hSw;go_simp;try (with_reducible rfl)
      simp only[Act.put,zsA,zsB,zsC]
      refine zac (i:=2) (dst:=some 42) (v:=?_) rfl rfl (by kernel_rfl) (by kernel_rfl) (by kernel_rfl) (fun _ _ _ h=>h) (Or.inl ⟨by rfl,?_⟩) hH_ ?_
      rotate_left
      · intro w hSw;obtain⟨k0,k1⟩:=hSw;go_simp;try (with_reducible rfl)
      simp only[Act.put,zsA,zsB,zsC]
      refine zac (i:=3) (dst:=some 43) (v:=?_) rfl rfl (by kernel_rfl) (by kernel_rfl) (by kernel_rfl) (fun _ _ _ h=>h) (Or.inl ⟨by rfl,?_⟩) hH_ ?_
      rotate_left
      · intro w hSw;obtain⟨k0,k1⟩:=hSw;go_simp;try (with_reducible rfl)
      simp only[Act.put,zsA,zsB,zsC]
      refine zac (i:=4) (dst:=some 44) (v:=?_) rfl rfl (by kernel_rfl) (by kernel_rfl) (by kernel_rfl) (fun _ _ _ h=>h) (Or.inl ⟨by rfl,?_⟩) hH_ ?_
      rotate_left
      · intro w hSw;obtain⟨k0,k1⟩:=hSw;go_simp;try (with_reducible rfl)
      simp only[Act.put,zsA,zsB,zsC]
      refine zac (i:=6) (dst:=some 46) (v:=?_) rfl rfl (by kernel_rfl) (by kernel_rfl) (by kernel_rfl) (fun _ _ _ h=>h) (Or.inl ⟨by rfl,?_⟩) hH_ ?_
      rotate_left
      · intro w hSw;obtain⟨k0,k1⟩:=hSw;go_simp;try (with_reducible rfl)
      simp only[Act.put,zsA,zsB,zsC]
      refine zac (i:=7) (dst:=some 47) (v:=?_) rfl rfl (by kernel_rfl) (by kernel_rfl) (by kernel_rfl) (fun _ _ _ h=>h) (Or.inl ⟨by rfl,?_⟩) hH_ ?_
      rotate_left
      · intro w hSw;obtain⟨k0,k1⟩:=hSw;go_simp;try (with_reducible rfl)
      simp only[Act.put,zsA,zsB,zsC]
      refine wpAnyH_ready (rs:=[5,8]) (by kernel_rfl) (by simp) ?_
      refine AllReadyH.cons rfl (fun K hK=>?_) (AllReadyH.cons rfl (fun K hK=>?_) AllReadyH.nil)
      · go_simp
        refine hK.out _ _ (uh HS _ hF0) (fun hH_=>?_)
        clear hK K
        refine wpAnyH_ready (rs:=[8]) (by kernel_rfl) (by simp) ?_
        refine AllReadyH.cons rfl (fun K hK=>?_) AllReadyH.nil
        go_simp
        have hj9:(V6.alloc (.cells #[.int .i64 ((l:Nat):Int)] 3)).heap[V6.heap.size]? = some (.cells #[.int .i64 ((l:Nat):Int)] 3):=Go.Deep.blk_alloc_new _ _
        have hbA:Below V6.heap.size V6 (V6.alloc (.cells #[.int .i64 ((l:Nat):Int)] 3)):=(Below.refl _ _).alloc (Nat.le_refl _) _
        have hF:=zb3 hF0 hbA
        refine hK.out _ _ (uh HS _ hF) (fun hH_=>?_)
        clear hK K
        refine wpAnyH_ready (rs:=[9]) (by kernel_rfl) (by simp) ?_
        refine AllReadyH.cons rfl (fun K hK=>?_) AllReadyH.nil
        have ow:=zaK (zas (uh HRow) hbA) (Nat.le_refl _)
        refine step_append_lies _ rfl (.tmp 45) (.tmp 48) 27 rfl 0 3 i3 (.int .i64 0) 1 8 Tryz.underlying27 hi3 hz30 hz31 hz32 rfl (by decide) (.slice ta Fl.length tc9) Fl.length (zal Fl) (by simp[Act.eval]) ow ⟨V6.heap.size,0,none⟩ 1 1 [.int .i64 ((l:Nat):Int)] (by simp[Act.eval]) rfl (fun j u hu=>zcK hj9 hu) (fun u hu=>by simp at hu;subst hu;rfl) (by decide) (by unfold maxLen;omega) (by omega) (Nat.zero_le _) _ rfl ?_
        intro g cap W6 ho6 hg6 hw6 hlt6
        have hg6:(V6.alloc (.cells #[.int .i64 ((l:Nat):Int)] 3)).grownBy W6 (Value.ownBlock (.slice ta Fl.length tc9)):=⟨hg6.os,hg6.tape,hg6.output,hg6.size,hg6.block⟩
        rw[← uh HVl] at hg6 hw6
        have ho6:W6.ownsRow 0 3 1 (.slice (some ⟨g,0,none⟩) (Fl ++ [((l:Nat):Int)]).length cap) (Fl ++ [((l:Nat):Int)]).length (zal (Fl ++ [((l:Nat):Int)])):=by rw[← zaN,List.length_append];exact ho6
        obtain⟨hT7,hF7⟩:=zcg (uh HT) hlr hbA rfl ho6 hg6 hw6 hlt6
        have hF6:Fr _ V6 W6:=⟨Nat.le_trans hF.1 hg6.size,fun j hj ho=>(hg6.block j (Nat.lt_of_lt_of_le hj hF.1) (fun e=>ho (((uh HT).rows _ hlr).2 j e.symm))).trans (hF.2.1 j hj ho),hg6.os.trans hF.2.2.1,hg6.tape.trans hF.2.2.2.1,hg6.output.trans hF.2.2.2.2⟩
        go_simp
        refine hK.out _ _ (uh HS _ hF6) (fun hH_=>?_)
        clear hK K
        refine zac (i:=10) (dst:=some 50) (v:=?_) rfl rfl (by kernel_rfl) (by kernel_rfl) (by kernel_rfl) (fun _ _ _ h=>h) (Or.inl ⟨by rfl,?_⟩) hH_ ?_
        rotate_left
        · intro w hSw;obtain⟨k0,k1⟩:=hSw;go_simp;try (with_reducible rfl)
        simp only[Act.put,zsA,zsB,zsC]
        refine wpAnyH_ready (rs:=[11]) (by kernel_rfl) (by simp) ?_
        refine AllReadyH.cons rfl (fun K hK=>?_) AllReadyH.nil
        have hfz:W6.frozen? ⟨wb,y,none⟩=false:=(zba (uh HT) hlr hbA hg6)
        have hcz:=zby (uh HT) hlr hbA hg6
        rw[uh HVl] at hcz
        go_simp
        have hlen6:(Fl ++ [((l:Nat):Int)]).length=Fl.length+1:=by simp
        rw[hlen6] at hT7 hF7
        refine hK.out _ _ (uh HS _ hF7) (fun hH_=>?_)
        clear hK K
        refine wpAnyH_done (by kernel_rfl) ?_ _
        have HT7:=zaa hT7;have HF7:=zaa hF7
        have hs6:=hg6.size
        clear ow hT7 hF7 hF6 ho6 hg6 hw6 hlt6 hfz hcz hF hj9 hlen6 hH_
        refine OnlyN.mk ?_
        obtain⟨hI8,hf8⟩:=uh HFin _ _ (uh HT7) (uh HF7) (fun k hk=>hk.imp id (fun h=>h.1))
        have HI8:=zaa hI8;have Hf8:=zaa (zlR (uh Hf6) hf8);have Hb8:=zaa (uh Hbl _ _ hf8 (uh Hb6))
        clear hI8 hf8 HT7 HF7 HFin HT HVl HRow HVV HS tcl hF0 HI6 Hb6
        generalize W6.setCell ⟨wb,y,none⟩ (.slice (some ⟨g,0,none⟩) (Fl.length+1) cap)=V8 at *
        have HIn:=HI8;have Hfn:=Hf8;have Hbn:=Hb8
        obtain⟨p1,p2,p3,p4,p5,p6,p7,p8,-⟩:=uh Hm _ _ _ _ _ _ (uh HIn)
        obtain⟨q1,q2,q3,q4,q5,q6⟩:=uh Hn _ (uh Hbn)
        have q5y:=q5 y hyn
        clear m1 m2 m3 m4 m5 m6 m7 m8 q5
        cases hnu:zaO G y with
        | true =>
          rw[hnu] at q5y
          gi_wp2_with fail
          refine zay (S:=(fun U:World=>U.cell? ⟨w1.heap.size,0,none⟩=some (.pointer (some ⟨S,0,none⟩))∧U.cell? ⟨w.heap.size,0,none⟩=some (.pointer (some ⟨bb,0,none⟩))∧U.cell? ⟨bb,2,none⟩=some (.slice (some ⟨sb,0,none⟩) G.rules.length sc)∧U.cell? ⟨sb,y,none⟩=some (.pointer (some ⟨A2 (rep9 y),0,none⟩)))) (by kernel_rfl) (by kernel_rfl) (by exact⟨p5,p1,q3,(q6 y hyn).1⟩) (fun hH_=>?_)
          refine zac (i:=0) (dst:=some 65) (v:=?_) rfl rfl (by kernel_rfl) (by kernel_rfl) (by kernel_rfl) (fun _ _ _ h=>h) (Or.inl ⟨by rfl,?_⟩) hH_ ?_
          rotate_left
          · intro w hSw;obtain⟨k0,k1,k2,k3⟩:=hSw;go_simp;try (with_reducible rfl)
          simp only[Act.put,zsA,zsB,zsC]
          refine zac (i:=1) (dst:=some 66) (v:=?_) rfl rfl (by kernel_rfl) (by kernel_rfl) (by kernel_rfl) (fun _ _ _ h=>h) (Or.inl ⟨by rfl,?_⟩) hH_ ?_
          rotate_left
          · intro w hSw;obtain⟨k0,k1,k2,k3⟩:=hSw;go_simp;try (with_reducible rfl)
          simp only[Act.put,zsA,zsB,zsC]
          refine zac (i:=2) (dst:=some 67) (v:=?_) rfl rfl (by kernel_rfl) (by kernel_rfl) (by kernel_rfl) (fun _ _ _ h=>h) (Or.inl ⟨by rfl,?_⟩) hH_ ?_
          rotate_left
          · intro w hSw;obtain⟨k0,k1,k2,k3⟩:=hSw;go_simp;try (with_reducible rfl)
          simp only[Act.put,zsA,zsB,zsC]
          refine zac (i:=3) (dst:=some 68) (v:=?_) rfl rfl (by kernel_rfl) (by kernel_rfl) (by kernel_rfl) (fun _ _ _ h=>h) (Or.inl ⟨by rfl,?_⟩) hH_ ?_
          rotate_left
          · intro w hSw;obtain⟨k0,k1,k2,k3⟩:=hSw;go_simp;try (with_reducible rfl)
          simp only[Act.put,zsA,zsB,zsC]
          refine zac (i:=4) (dst:=some 69) (v:=?_) rfl rfl (by kernel_rfl) (by kernel_rfl) (by kernel_rfl) (fun _ _ _ h=>h) (Or.inl ⟨by rfl,?_⟩) hH_ ?_
          rotate_left
          · intro w hSw;obtain⟨k0,k1,k2,k3⟩:=hSw;go_simp;try (with_reducible rfl)
          simp only[Act.put,zsA,zsB,zsC]
          refine zac (i:=5) (dst:=some 70) (v:=?_) rfl rfl (by kernel_rfl) (by kernel_rfl) (by kernel_rfl) (fun _ _ _ h=>h) (Or.inl ⟨by rfl,?_⟩) hH_ ?_
          rotate_left
          · intro w hSw;obtain⟨k0,k1,k2,k3⟩:=hSw;go_simp;try (with_reducible rfl)
          simp only[Act.put,zsA,zsB,zsC]
          refine zac (i:=6) (dst:=some 71) (v:=?_) rfl rfl (by kernel_rfl) (by kernel_rfl) (by kernel_rfl) (fun _ _ _ h=>h) (Or.inl ⟨by rfl,?_⟩) hH_ ?_
          rotate_left
          · intro w hSw;obtain⟨k0,k1,k2,k3⟩:=hSw;go_simp;try (with_reducible rfl)
          simp only[Act.put,zsA,zsB,zsC]
          refine zac (i:=7) (dst:=some 72) (v:=?_) rfl rfl (by kernel_rfl) (by kernel_rfl) (by kernel_rfl) (fun _ _ _ h=>h) (Or.inl ⟨by rfl,?_⟩) hH_ ?_
          rotate_left
          · intro w hSw;obtain⟨k0,k1,k2,k3⟩:=hSw;go_simp;try (with_reducible rfl)
          simp only[Act.put,zsA,zsB,zsC]
          refine wpAnyH_ready (rs:=[8]) (by kernel_rfl) (by simp) ?_
          refine AllReadyH.cons rfl (fun K hK=>?_) AllReadyH.nil
          go_simp
          refine(zee (zbL (uh HIn) (Below.refl _ _).drew) (zbK (q6 y hyn).2 (Below.refl _ _).drew) (uh HM9 y hyn)).mono ?_
          rintro e V12 ⟨⟨c12,rfl⟩,hI12,hf12⟩
          have hf12:Fr (Mv KK V8) V8 V12:=hf12
          have hp12:=uh Hm _ _ _ _ _ _ hI12
          have hb12:=uh Hbl _ _ hf12 (uh Hbn)
          have hq12:=uh Hn _ hb12
          go_wp2_with fail
          refine hK.out _ _ (⟨hp12.2.2.2.2.1,hp12.1,hq12.2.2.1,(hq12.2.2.2.2.2 y hyn).1⟩) (fun hH_=>?_)
          clear hK K
          refine wpAnyH_done (by kernel_rfl) ?_ _
          refine OnlyN.mk ?_
          have HI12:=zaa hI12;have Hf12:=zaa (zlR (uh Hfn) hf12)
          clear hI12 hf12 hp12 hq12 hH_ hb12
          gi_wp2
          exact uh Hout _ _ _ _ _ _ (uh HI12) (uh Hf12) (fun r=>by have h1:=uh HlW r;have h2:=ze0 W y l r;omega) (fun hp=>⟨uh Hfl2 hp,by
          obtain⟨h1,h2,h3⟩:=uh Hbe hp
          refine zjS h1 h3 (by rw[h2];exact hnx) (by rw[h2,ey];exact hnu) (fun m=>?_)
          rw[h2,ey];exact uh HF9 y hyn m⟩)
        | false =>
          rw[hnu] at q5y
          gi_wp2_with fail
          refine⟨trivial,(CallsIn.inRound l0 (callsIn_wide.2 (zcB V8))).mono ?_⟩
          rintro e V10 ⟨rfl,hb10,hlt10,hs10⟩
          have hI10:=zbL (uh HIn) hb10
          obtain⟨r1,r2,r3,r4,r5,r6,r7,r8,-⟩:=uh Hm _ _ _ _ _ _ hI10
          have hst10:=zkH hI10 (.pointer (some ⟨V8.heap.size,0,none⟩)) (.bool false)
          obtain⟨hfr10,h10a,h10b⟩:=hst10
          obtain⟨hI11,hf11⟩:=zeR (S':=V8.heap.size) (em':=false) (uh HIn) hb10 hs10 (fun q hq=>by have hq:q=V8.heap.size:=hq;omega) hfr10 h10a h10b
          rw[(uh HxK).1,(uh HxK).2] at hI11 hf11
          have hne10:w1.heap.size≠w1.heap.size+1:=by omega
          have hne11:w1.heap.size+1≠w1.heap.size:=by omega
          have HI11:=zaa hI11;have Hf11:=zaa (zlR (uh Hfn) hf11);have Hb11:=zaa (uh Hbl _ _ hf11 (uh Hbn))
          clear hI11 hf11 hfr10 h10a h10b hI10 hb10 hs10 p1 p2 p3 p4 p5 p6 p7 p8 q1 q2 q3 q4 q6 q5y
          gi_wp2_with fail
          generalize (V10.setCell ⟨w1.heap.size,0,none⟩ (.pointer (some ⟨V8.heap.size,0,none⟩))).setCell ⟨w1.heap.size+1,0,none⟩ (.bool false)=V11 at *
          clear HIn Hfn Hbn
          have HIn:=HI11;have Hfn:=Hf11;have Hbn:=Hb11
          obtain⟨p1,p2,p3,p4,p5,p6,p7,p8,-⟩:=uh Hm _ _ _ _ _ _ (uh HIn)
          obtain⟨q1,q2,q3,q4,q5,q6⟩:=uh Hn _ (uh Hbn)
          refine zay (S:=(fun U:World=>U.cell? ⟨w1.heap.size,0,none⟩=some (.pointer (some ⟨V8.heap.size,0,none⟩))∧U.cell? ⟨w.heap.size,0,none⟩=some (.pointer (some ⟨bb,0,none⟩))∧U.cell? ⟨bb,2,none⟩=some (.slice (some ⟨sb,0,none⟩) G.rules.length sc)∧U.cell? ⟨sb,y,none⟩=some (.pointer (some ⟨A2 (rep9 y),0,none⟩)))) (by kernel_rfl) (by kernel_rfl) (by exact⟨p5,p1,q3,(q6 y hyn).1⟩) (fun hH_=>?_)
          refine zac (i:=0) (dst:=some 65) (v:=?_) rfl rfl (by kernel_rfl) (by kernel_rfl) (by kernel_rfl) (fun _ _ _ h=>h) (Or.inl ⟨by rfl,?_⟩) hH_ ?_
          rotate_left
          · intro w hSw;obtain⟨k0,k1,k2,k3⟩:=hSw;go_simp;try (with_reducible rfl)
          simp only[Act.put,zsA,zsB,zsC]
          refine zac (i:=1) (dst:=some 66) (v:=?_) rfl rfl (by kernel_rfl) (by kernel_rfl) (by kernel_rfl) (fun _ _ _ h=>h) (Or.inl ⟨by rfl,?_⟩) hH_ ?_
          rotate_left
          · intro w hSw;obtain⟨k0,k1,k2,k3⟩:=hSw;go_simp;try (with_reducible rfl)
          simp only[Act.put,zsA,zsB,zsC]
          refine zac (i:=2) (dst:=some 67) (v:=?_) rfl rfl (by kernel_rfl) (by kernel_rfl) (by kernel_rfl) (fun _ _ _ h=>h) (Or.inl ⟨by rfl,?_⟩) hH_ ?_
          rotate_left
          · intro w hSw;obtain⟨k0,k1,k2,k3⟩:=hSw;go_simp;try (with_reducible rfl)
          simp only[Act.put,zsA,zsB,zsC]
          refine zac (i:=3) (dst:=some 68) (v:=?_) rfl rfl (by kernel_rfl) (by kernel_rfl) (by kernel_rfl) (fun _ _ _ h=>h) (Or.inl ⟨by rfl,?_⟩) hH_ ?_
          rotate_left
          · intro w hSw;obtain⟨k0,k1,k2,k3⟩:=hSw;go_simp;try (with_reducible rfl)
          simp only[Act.put,zsA,zsB,zsC]
          refine zac (i:=4) (dst:=some 69) (v:=?_) rfl rfl (by kernel_rfl) (by kernel_rfl) (by kernel_rfl) (fun _ _ _ h=>h) (Or.inl ⟨by rfl,?_⟩) hH_ ?_
          rotate_left
          · intro w hSw;obtain⟨k0,k1,k2,k3⟩:=hSw;go_simp;try (with_reducible rfl)
          simp only[Act.put,zsA,zsB,zsC]
          refine zac (i:=5) (dst:=some 70) (v:=?_) rfl rfl (by kernel_rfl) (by kernel_rfl) (by kernel_rfl) (fun _ _ _ h=>h) (Or.inl ⟨by rfl,?_⟩) hH_ ?_
          rotate_left
          · intro w hSw;obtain⟨k0,k1,k2,k3⟩:=hSw;go_simp;try (with_reducible rfl)
          simp only[Act.put,zsA,zsB,zsC]
          refine zac (i:=6) (dst:=some 71) (v:=?_) rfl rfl (by kernel_rfl) (by kernel_rfl) (by kernel_rfl) (fun _ _ _ h=>h) (Or.inl ⟨by rfl,?_⟩) hH_ ?_
          rotate_left
          · intro w hSw;obtain⟨k0,k1,k2,k3⟩:=hSw;go_simp;try (with_reducible rfl)
          simp only[Act.put,zsA,zsB,zsC]
          refine zac (i:=7) (dst:=some 72) (v:=?_) rfl rfl (by kernel_rfl) (by kernel_rfl) (by kernel_rfl) (fun _ _ _ h=>h) (Or.inl ⟨by rfl,?_⟩) hH_ ?_
          rotate_left
          · intro w hSw;obtain⟨k0,k1,k2,k3⟩:=hSw;go_simp;try (with_reducible rfl)
          simp only[Act.put,zsA,zsB,zsC]
          refine wpAnyH_ready (rs:=[8]) (by kernel_rfl) (by simp) ?_
          refine AllReadyH.cons rfl (fun K hK=>?_) AllReadyH.nil
          go_simp
          refine(zee (zbL (uh HIn) (Below.refl _ _).drew) (zbK (q6 y hyn).2 (Below.refl _ _).drew) (uh HM9 y hyn)).mono ?_
          rintro e V12 ⟨⟨c12,rfl⟩,hI12,hf12⟩
          have hf12:Fr (Mv KK V11) V11 V12:=hf12
          have hp12:=uh Hm _ _ _ _ _ _ hI12
          have hb12:=uh Hbl _ _ hf12 (uh Hbn)
          have hq12:=uh Hn _ hb12
          go_wp2_with fail
          refine hK.out _ _ (⟨hp12.2.2.2.2.1,hp12.1,hq12.2.2.1,(hq12.2.2.2.2.2 y hyn).1⟩) (fun hH_=>?_)
          clear hK K
          refine wpAnyH_done (by kernel_rfl) ?_ _
          refine OnlyN.mk ?_
          have HI12:=zaa hI12;have Hf12:=zaa (zlR (uh Hfn) hf12)
          clear hI12 hf12 hp12 hq12 hH_ hb12
          gi_wp2
          exact uh Hout _ _ _ _ _ _ (uh HI12) (uh Hf12) (fun r=>by have h1:=uh HlW r;have h2:=ze0 W y l r;omega) (fun hp=>⟨uh Hfl2 hp,by
          obtain⟨h1,h2,h3⟩:=uh Hbe hp
          refine zjT h3 (by rw[h2];exact hnx) (by rw[h2,ey];exact hnu) (fun m=>?_)
          rw[h2,ey];exact uh HF9 y hyn m⟩)
      · go_simp
        have hj9:(V6.alloc (.cells #[.int .i64 ((l:Nat):Int)] 3)).heap[V6.heap.size]? = some (.cells #[.int .i64 ((l:Nat):Int)] 3):=Go.Deep.blk_alloc_new _ _
        have hbA:Below V6.heap.size V6 (V6.alloc (.cells #[.int .i64 ((l:Nat):Int)] 3)):=(Below.refl _ _).alloc (Nat.le_refl _) _
        have hF:=zb3 hF0 hbA
        refine hK.out _ _ (uh HS _ hF) (fun hH_=>?_)
        clear hK K
        refine wpAnyH_ready (rs:=[5]) (by kernel_rfl) (by simp) ?_
        refine AllReadyH.cons rfl (fun K hK=>?_) AllReadyH.nil
        have tcl2:(V6.alloc (.cells #[.int .i64 ((l:Nat):Int)] 3)).cell? ⟨wb,y,none⟩=some (.slice ta Fl.length tc9):=(hbA.cell (p:=⟨wb,y,none⟩) ((uh HT).lt _ (uh HT).own)).trans tcl
        go_simp
        refine hK.out _ _ (uh HS _ hF) (fun hH_=>?_)
        clear hK K
        refine wpAnyH_ready (rs:=[9]) (by kernel_rfl) (by simp) ?_
        refine AllReadyH.cons rfl (fun K hK=>?_) AllReadyH.nil
        have ow:=zaK (zas (uh HRow) hbA) (Nat.le_refl _)
        refine step_append_lies _ rfl (.tmp 45) (.tmp 48) 27 rfl 0 3 i3 (.int .i64 0) 1 8 Tryz.underlying27 hi3 hz30 hz31 hz32 rfl (by decide) (.slice ta Fl.length tc9) Fl.length (zal Fl) (by simp[Act.eval]) ow ⟨V6.heap.size,0,none⟩ 1 1 [.int .i64 ((l:Nat):Int)] (by simp[Act.eval]) rfl (fun j u hu=>zcK hj9 hu) (fun u hu=>by simp at hu;subst hu;rfl) (by decide) (by unfold maxLen;omega) (by omega) (Nat.zero_le _) _ rfl ?_
        intro g cap W6 ho6 hg6 hw6 hlt6
        have hg6:(V6.alloc (.cells #[.int .i64 ((l:Nat):Int)] 3)).grownBy W6 (Value.ownBlock (.slice ta Fl.length tc9)):=⟨hg6.os,hg6.tape,hg6.output,hg6.size,hg6.block⟩
        rw[← uh HVl] at hg6 hw6
        have ho6:W6.ownsRow 0 3 1 (.slice (some ⟨g,0,none⟩) (Fl ++ [((l:Nat):Int)]).length cap) (Fl ++ [((l:Nat):Int)]).length (zal (Fl ++ [((l:Nat):Int)])):=by rw[← zaN,List.length_append];exact ho6
        obtain⟨hT7,hF7⟩:=zcg (uh HT) hlr hbA rfl ho6 hg6 hw6 hlt6
        have hF6:Fr _ V6 W6:=⟨Nat.le_trans hF.1 hg6.size,fun j hj ho=>(hg6.block j (Nat.lt_of_lt_of_le hj hF.1) (fun e=>ho (((uh HT).rows _ hlr).2 j e.symm))).trans (hF.2.1 j hj ho),hg6.os.trans hF.2.2.1,hg6.tape.trans hF.2.2.2.1,hg6.output.trans hF.2.2.2.2⟩
        go_simp
        refine hK.out _ _ (uh HS _ hF6) (fun hH_=>?_)
        clear hK K
        refine zac (i:=10) (dst:=some 50) (v:=?_) rfl rfl (by kernel_rfl) (by kernel_rfl) (by kernel_rfl) (fun _ _ _ h=>h) (Or.inl ⟨by rfl,?_⟩) hH_ ?_
        rotate_left
        · intro w hSw;obtain⟨k0,k1⟩:=hSw;go_simp;try (with_reducible rfl)
        simp only[Act.put,zsA,zsB,zsC]
        refine wpAnyH_ready (rs:=[11]) (by kernel_rfl) (by simp) ?_
        refine AllReadyH.cons rfl (fun K hK=>?_) AllReadyH.nil
        have hfz:W6.frozen? ⟨wb,y,none⟩=false:=(zba (uh HT) hlr hbA hg6)
        have hcz:=zby (uh HT) hlr hbA hg6
        rw[uh HVl] at hcz
        go_simp
        have hlen6:(Fl ++ [((l:Nat):Int)]).length=Fl.length+1:=by simp
        rw[hlen6] at hT7 hF7
        refine hK.out _ _ (uh HS _ hF7) (fun hH_=>?_)
        clear hK K
        refine wpAnyH_done (by kernel_rfl) ?_ _
        have HT7:=zaa hT7;have HF7:=zaa hF7
        have hs6:=hg6.size
        clear ow hT7 hF7 hF6 ho6 hg6 hw6 hlt6 hfz hcz hF hj9 hlen6 hH_
        refine OnlyN.mk ?_
        obtain⟨hI8,hf8⟩:=uh HFin _ _ (uh HT7) (uh HF7) (fun k hk=>hk.imp id (fun h=>h.1))
        have HI8:=zaa hI8;have Hf8:=zaa (zlR (uh Hf6) hf8);have Hb8:=zaa (uh Hbl _ _ hf8 (uh Hb6))
        clear hI8 hf8 HT7 HF7 HFin HT HVl HRow HVV HS tcl hF0 HI6 Hb6
        generalize W6.setCell ⟨wb,y,none⟩ (.slice (some ⟨g,0,none⟩) (Fl.length+1) cap)=V8 at *
        have HIn:=HI8;have Hfn:=Hf8;have Hbn:=Hb8
        obtain⟨p1,p2,p3,p4,p5,p6,p7,p8,-⟩:=uh Hm _ _ _ _ _ _ (uh HIn)
        obtain⟨q1,q2,q3,q4,q5,q6⟩:=uh Hn _ (uh Hbn)
        have q5y:=q5 y hyn
        clear m1 m2 m3 m4 m5 m6 m7 m8 q5
        cases hnu:zaO G y with
        | true =>
          rw[hnu] at q5y
          gi_wp2_with fail
          refine zay (S:=(fun U:World=>U.cell? ⟨w1.heap.size,0,none⟩=some (.pointer (some ⟨S,0,none⟩))∧U.cell? ⟨w.heap.size,0,none⟩=some (.pointer (some ⟨bb,0,none⟩))∧U.cell? ⟨bb,2,none⟩=some (.slice (some ⟨sb,0,none⟩) G.rules.length sc)∧U.cell? ⟨sb,y,none⟩=some (.pointer (some ⟨A2 (rep9 y),0,none⟩)))) (by kernel_rfl) (by kernel_rfl) (by exact⟨p5,p1,q3,(q6 y hyn).1⟩) (fun hH_=>?_)
          refine zac (i:=0) (dst:=some 65) (v:=?_) rfl rfl (by kernel_rfl) (by kernel_rfl) (by kernel_rfl) (fun _ _ _ h=>h) (Or.inl ⟨by rfl,?_⟩) hH_ ?_
          rotate_left
          · intro w hSw;obtain⟨k0,k1,k2,k3⟩:=hSw;go_simp;try (with_reducible rfl)
          simp only[Act.put,zsA,zsB,zsC]
          refine zac (i:=1) (dst:=some 66) (v:=?_) rfl rfl (by kernel_rfl) (by kernel_rfl) (by kernel_rfl) (fun _ _ _ h=>h) (Or.inl ⟨by rfl,?_⟩) hH_ ?_
          rotate_left
          · intro w hSw;obtain⟨k0,k1,k2,k3⟩:=hSw;go_simp;try (with_reducible rfl)
          simp only[Act.put,zsA,zsB,zsC]
          refine zac (i:=2) (dst:=some 67) (v:=?_) rfl rfl (by kernel_rfl) (by kernel_rfl) (by kernel_rfl) (fun _ _ _ h=>h) (Or.inl ⟨by rfl,?_⟩) hH_ ?_
          rotate_left
          · intro w hSw;obtain⟨k0,k1,k2,k3⟩:=hSw;go_simp;try (with_reducible rfl)
          simp only[Act.put,zsA,zsB,zsC]
          refine zac (i:=3) (dst:=some 68) (v:=?_) rfl rfl (by kernel_rfl) (by kernel_rfl) (by kernel_rfl) (fun _ _ _ h=>h) (Or.inl ⟨by rfl,?_⟩) hH_ ?_
          rotate_left
          · intro w hSw;obtain⟨k0,k1,k2,k3⟩:=hSw;go_simp;try (with_reducible rfl)
          simp only[Act.put,zsA,zsB,zsC]
          refine zac (i:=4) (dst:=some 69) (v:=?_) rfl rfl (by kernel_rfl) (by kernel_rfl) (by kernel_rfl) (fun _ _ _ h=>h) (Or.inl ⟨by rfl,?_⟩) hH_ ?_
          rotate_left
          · intro w hSw;obtain⟨k0,k1,k2,k3⟩:=hSw;go_simp;try (with_reducible rfl)
          simp only[Act.put,zsA,zsB,zsC]
          refine zac (i:=5) (dst:=some 70) (v:=?_) rfl rfl (by kernel_rfl) (by kernel_rfl) (by kernel_rfl) (fun _ _ _ h=>h) (Or.inl ⟨by rfl,?_⟩) hH_ ?_
          rotate_left
          · intro w hSw;obtain⟨k0,k1,k2,k3⟩:=hSw;go_simp;try (with_reducible rfl)
          simp only[Act.put,zsA,zsB,zsC]
          refine zac (i:=6) (dst:=some 71) (v:=?_) rfl rfl (by kernel_rfl) (by kernel_rfl) (by kernel_rfl) (fun _ _ _ h=>h) (Or.inl ⟨by rfl,?_⟩) hH_ ?_
          rotate_left
          · intro w hSw;obtain⟨k0,k1,k2,k3⟩:=hSw;go_simp;try (with_reducible rfl)
          simp only[Act.put,zsA,zsB,zsC]
          refine zac (i:=7) (dst:=some 72) (v:=?_) rfl rfl (by kernel_rfl) (by kernel_rfl) (by kernel_rfl) (fun _ _ _ h=>h) (Or.inl ⟨by rfl,?_⟩) hH_ ?_
          rotate_left
          · intro w hSw;obtain⟨k0,k1,k2,k3⟩:=hSw;go_simp;try (with_reducible rfl)
          simp only[Act.put,zsA,zsB,zsC]
          refine wpAnyH_ready (rs:=[8]) (by kernel_rfl) (by simp) ?_
          refine AllReadyH.cons rfl (fun K hK=>?_) AllReadyH.nil
          go_simp
          refine(zee (zbL (uh HIn) (Below.refl _ _).drew) (zbK (q6 y hyn).2 (Below.refl _ _).drew) (uh HM9 y hyn)).mono ?_
          rintro e V12 ⟨⟨c12,rfl⟩,hI12,hf12⟩
          have hf12:Fr (Mv KK V8) V8 V12:=hf12
          have hp12:=uh Hm _ _ _ _ _ _ hI12
          have hb12:=uh Hbl _ _ hf12 (uh Hbn)
          have hq12:=uh Hn _ hb12
          go_wp2_with fail
          refine hK.out _ _ (⟨hp12.2.2.2.2.1,hp12.1,hq12.2.2.1,(hq12.2.2.2.2.2 y hyn).1⟩) (fun hH_=>?_)
          clear hK K
          refine wpAnyH_done (by kernel_rfl) ?_ _
          refine OnlyN.mk ?_
          have HI12:=zaa hI12;have Hf12:=zaa (zlR (uh Hfn) hf12)
          clear hI12 hf12 hp12 hq12 hH_ hb12
          gi_wp2
          exact uh Hout _ _ _ _ _ _ (uh HI12) (uh Hf12) (fun r=>by have h1:=uh HlW r;have h2:=ze0 W y l r;omega) (fun hp=>⟨uh Hfl2 hp,by
          obtain⟨h1,h2,h3⟩:=uh Hbe hp
          refine zjS h1 h3 (by rw[h2];exact hnx) (by rw[h2,ey];exact hnu) (fun m=>?_)
          rw[h2,ey];exact uh HF9 y hyn m⟩)
        | false =>
          rw[hnu] at q5y
          gi_wp2_with fail
          refine⟨trivial,(CallsIn.inRound l0 (callsIn_wide.2 (zcB V8))).mono ?_⟩
          rintro e V10 ⟨rfl,hb10,hlt10,hs10⟩
          have hI10:=zbL (uh HIn) hb10
          obtain⟨r1,r2,r3,r4,r5,r6,r7,r8,-⟩:=uh Hm _ _ _ _ _ _ hI10
          have hst10:=zkH hI10 (.pointer (some ⟨V8.heap.size,0,none⟩)) (.bool false)
          obtain⟨hfr10,h10a,h10b⟩:=hst10
          obtain⟨hI11,hf11⟩:=zeR (S':=V8.heap.size) (em':=false) (uh HIn) hb10 hs10 (fun q hq=>by have hq:q=V8.heap.size:=hq;omega) hfr10 h10a h10b
          rw[(uh HxK).1,(uh HxK).2] at hI11 hf11
          have hne10:w1.heap.size≠w1.heap.size+1:=by omega
          have hne11:w1.heap.size+1≠w1.heap.size:=by omega
          have HI11:=zaa hI11;have Hf11:=zaa (zlR (uh Hfn) hf11);have Hb11:=zaa (uh Hbl _ _ hf11 (uh Hbn))
          clear hI11 hf11 hfr10 h10a h10b hI10 hb10 hs10 p1 p2 p3 p4 p5 p6 p7 p8 q1 q2 q3 q4 q6 q5y
          gi_wp2_with fail
          generalize (V10.setCell ⟨w1.heap.size,0,none⟩ (.pointer (some ⟨V8.heap.size,0,none⟩))).setCell ⟨w1.heap.size+1,0,none⟩ (.bool false)=V11 at *
          clear HIn Hfn Hbn
          have HIn:=HI11;have Hfn:=Hf11;have Hbn:=Hb11
          obtain⟨p1,p2,p3,p4,p5,p6,p7,p8,-⟩:=uh Hm _ _ _ _ _ _ (uh HIn)
          obtain⟨q1,q2,q3,q4,q5,q6⟩:=uh Hn _ (uh Hbn)
          refine zay (S:=(fun U:World=>U.cell? ⟨w1.heap.size,0,none⟩=some (.pointer (some ⟨V8.heap.size,0,none⟩))∧U.cell? ⟨w.heap.size,0,none⟩=some (.pointer (some ⟨bb,0,none⟩))∧U.cell? ⟨bb,2,none⟩=some (.slice (some ⟨sb,0,none⟩) G.rules.length sc)∧U.cell? ⟨sb,y,none⟩=some (.pointer (some ⟨A2 (rep9 y),0,none⟩)))) (by kernel_rfl) (by kernel_rfl) (by exact⟨p5,p1,q3,(q6 y hyn).1⟩) (fun hH_=>?_)
          refine zac (i:=0) (dst:=some 65) (v:=?_) rfl rfl (by kernel_rfl) (by kernel_rfl) (by kernel_rfl) (fun _ _ _ h=>h) (Or.inl ⟨by rfl,?_⟩) hH_ ?_
          rotate_left
          · intro w hSw;obtain⟨k0,k1,k2,k3⟩:=hSw;go_simp;try (with_reducible rfl)
          simp only[Act.put,zsA,zsB,zsC]
          refine zac (i:=1) (dst:=some 66) (v:=?_) rfl rfl (by kernel_rfl) (by kernel_rfl) (by kernel_rfl) (fun _ _ _ h=>h) (Or.inl ⟨by rfl,?_⟩) hH_ ?_
          rotate_left
          · intro w hSw;obtain⟨k0,k1,k2,k3⟩:=hSw;go_simp;try (with_reducible rfl)
          simp only[Act.put,zsA,zsB,zsC]
          refine zac (i:=2) (dst:=some 67) (v:=?_) rfl rfl (by kernel_rfl) (by kernel_rfl) (by kernel_rfl) (fun _ _ _ h=>h) (Or.inl ⟨by rfl,?_⟩) hH_ ?_
          rotate_left
          · intro w hSw;obtain⟨k0,k1,k2,k3⟩:=hSw;go_simp;try (with_reducible rfl)
          simp only[Act.put,zsA,zsB,zsC]
          refine zac (i:=3) (dst:=some 68) (v:=?_) rfl rfl (by kernel_rfl) (by kernel_rfl) (by kernel_rfl) (fun _ _ _ h=>h) (Or.inl ⟨by rfl,?_⟩) hH_ ?_
          rotate_left
          · intro w hSw;obtain⟨k0,k1,k2,k3⟩:=hSw;go_simp;try (with_reducible rfl)
          simp only[Act.put,zsA,zsB,zsC]
          refine zac (i:=4) (dst:=some 69) (v:=?_) rfl rfl (by kernel_rfl) (by kernel_rfl) (by kernel_rfl) (fun _ _ _ h=>h) (Or.inl ⟨by rfl,?_⟩) hH_ ?_
          rotate_left
          · intro w hSw;obtain⟨k0,k1,k2,k3⟩:=hSw;go_simp;try (with_reducible rfl)
          simp only[Act.put,zsA,zsB,zsC]
          refine zac (i:=5) (dst:=some 70) (v:=?_) rfl rfl (by kernel_rfl) (by kernel_rfl) (by kernel_rfl) (fun _ _ _ h=>h) (Or.inl ⟨by rfl,?_⟩) hH_ ?_
          rotate_left
          · intro w hSw;obtain⟨k0,k1,k2,k3⟩:=hSw;go_simp;try (with_reducible rfl)
          simp only[Act.put,zsA,zsB,zsC]
          refine zac (i:=6) (dst:=some 71) (v:=?_) rfl rfl (by kernel_rfl) (by kernel_rfl) (by kernel_rfl) (fun _ _ _ h=>h) (Or.inl ⟨by rfl,?_⟩) hH_ ?_
          rotate_left
          · intro w hSw;obtain⟨k0,k1,k2,k3⟩:=hSw;go_simp;try (with_reducible rfl)
          simp only[Act.put,zsA,zsB,zsC]
          refine zac (i:=7) (dst:=some 72) (v:=?_) rfl rfl (by kernel_rfl) (by kernel_rfl) (by kernel_rfl) (fun _ _ _ h=>h) (Or.inl ⟨by rfl,?_⟩) hH_ ?_
          rotate_left
          · intro w hSw;obtain⟨k0,k1,k2,k3⟩:=hSw;go_simp;try (with_reducible rfl)
          simp only[Act.put,zsA,zsB,zsC]
          refine wpAnyH_ready (rs:=[8]) (by kernel_rfl) (by simp) ?_
          refine AllReadyH.cons rfl (fun K hK=>?_) AllReadyH.nil
          go_simp
          refine(zee (zbL (uh HIn) (Below.refl _ _).drew) (zbK (q6 y hyn).2 (Below.refl _ _).drew) (uh HM9 y hyn)).mono ?_
          rintro e V12 ⟨⟨c12,rfl⟩,hI12,hf12⟩
          have hf12:Fr (Mv KK V11) V11 V12:=hf12
          have hp12:=uh Hm _ _ _ _ _ _ hI12
          have hb12:=uh Hbl _ _ hf12 (uh Hbn)
          have hq12:=uh Hn _ hb12
          go_wp2_with fail
          refine hK.out _ _ (⟨hp12.2.2.2.2.1,hp12.1,hq12.2.2.1,(hq12.2.2.2.2.2 y hyn).1⟩) (fun hH_=>?_)
          clear hK K
          refine wpAnyH_done (by kernel_rfl) ?_ _
          refine OnlyN.mk ?_
          have HI12:=zaa hI12;have Hf12:=zaa (zlR (uh Hfn) hf12)
          clear hI12 hf12 hp12 hq12 hH_ hb12
          gi_wp2
          exact uh Hout _ _ _ _ _ _ (uh HI12) (uh Hf12) (fun r=>by have h1:=uh HlW r;have h2:=ze0 W y l r;omega) (fun hp=>⟨uh Hfl2 hp,by
          obtain⟨h1,h2,h3⟩:=uh Hbe hp
          refine zjT h3 (by rw[h2];exact hnx) (by rw[h2,ey];exact hnu) (fun m=>?_)
          rw[h2,ey];exact uh HF9 y hyn m⟩)
  · rw[if_neg hru,decide_eq_false hru] at HR
    have hx9:xv<(G.nk:Int):=by show xv<((G.kinds.length:Nat):Int);omega
    have Hfl2:Hid (((pre ++ [(⟨(xi,xv),hx1,hx2⟩:{p:Int × Int // 1≤p.2∧p.2<((G.nk+G.nr:Nat):Int)})]).map Subtype.val <+: zb7 prt)→FlI G (Dn k j) (nW+pre.length+1) C W):=zaa (fun hp=>by
      obtain⟨h1,h2,h3,h4⟩:=uh Hcond hp
      exact uh Hkd j _ C W h1 (by rw[h3];exact hx9))
    have Hbe2:Hid (((pre ++ [(⟨(xi,xv),hx1,hx2⟩:{p:Int × Int // 1≤p.2∧p.2<((G.nk+G.nr:Nat):Int)})]).map Subtype.val <+: zb7 prt)→BeI G prt j (zi8 (fun _=>false) xv) false):=zaa (fun hp=>by
      obtain⟨h1,h2,h3,h4⟩:=uh Hcond hp
      have:=zrG (G:=G) h4 (by rw[h3];omega) (by rw[h3];exact hx9)
      rw[h3] at this
      exact this)
    clear Hcond n5 n6 m9
    gi_wp2_with fail
    refine⟨trivial,(CallsIn.inRound l0 (callsIn_wide.2 (uh HR))).mono ?_⟩
    rintro e w9 ⟨rfl,rfl⟩
    gi_wp2_with fail
    refine⟨trivial,(CallsIn.inRound l0 (callsIn_wide.2 (zcB V))).mono ?_⟩
    rintro e V10 ⟨rfl,hb10,hlt10,hs10⟩
    have hI10:=zbL (uh HI) hb10
    clear m1 m2 m3 m4 m5 m6 m7 m8 n1 n2 n3 n4
    obtain⟨r1,r2,r3,r4,r5,r6,r7,r8,-⟩:=uh Hm _ _ _ _ _ _ hI10
    obtain⟨hfr10,h10a,h10b⟩:=zkH hI10 (.pointer (some ⟨V.heap.size,0,none⟩)) (.bool false)
    obtain⟨hI11,hf11⟩:=zeR (S':=V.heap.size) (em':=false) (uh HI) hb10 hs10 (fun q hq=>by have hq:q=V.heap.size:=hq;omega) hfr10 h10a h10b
    rw[(uh HxK).1,(uh HxK).2] at hI11 hf11
    have hne10:w1.heap.size≠w1.heap.size+1:=by omega
    have hne11:w1.heap.size+1≠w1.heap.size:=by omega
    have hsz11:((V10.setCell ⟨w1.heap.size,0,none⟩ (.pointer (some ⟨V.heap.size,0,none⟩))).setCell ⟨w1.heap.size+1,0,none⟩ (.bool false)).heap.size=V10.heap.size:=by simp
    have had:=fw_add hI11 xv (by omega) 1
    rw[hsz11] at had
    have HAd:=zaa had
    have Hf11:=zaa hf11
    clear hI11 hf11 hfr10 h10a h10b hI10 hb10 hs10 hsz11 had
    gi_wp2_with fail
    refine⟨trivial,(CallsIn.inRound l0 (callsIn_wide.2 (uh HAd))).mono ?_⟩
    rintro e V13 ⟨⟨c13,rfl⟩,hI13,hf13⟩
    have HI13:=zaa hI13;have Hf13:=zaa (zlR (uh Hf11) hf13)
    clear hI13 hf13
    gi_wp2
    exact uh Hout _ _ _ _ _ _ (uh HI13) (uh Hf13) (fun r=>by have:=uh HlW r;omega) (fun hp=>⟨uh Hfl2 hp,uh Hbe2 hp⟩)
end Go.Proofs.YtagohbpbgjelaaaGreatDoor

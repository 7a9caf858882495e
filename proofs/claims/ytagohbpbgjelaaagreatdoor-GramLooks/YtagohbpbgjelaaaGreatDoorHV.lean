/- Shortest rows' lengths, plainly: what the code's way of finding them ends with. -/
import Derived.Test.YtagohbpbgjelaaaGreatDoorRG
import Derived.Test.YtagohbpbgjelaaaGreatDoorA4
import Derived.Test.YtagohbpbgjelaaaGreatDoorGX
import Derived.Test.YtagohbpbgjelaaaGreatDoorSP
import Derived.Test.YtagohbpbgjelaaaGreatDoorGJ
import Derived.Test.YtagohbpbgjelaaaGreatDoorHQ
import Derived.Test.YtagohbpbgjelaaaGreatDoorY1
namespace Go.Proofs.YtagohbpbgjelaaaGreatDoor
open Go.RowKit

def kcN (G:Gm) (q:Nat):Int:=((G.prods.getD q pd0).right.length:Int) - (rlN G q).length
def lfQ (G:Gm) (q:Nat):Nat:=(G.prods.getD q pd0).left.toNat
theorem rulesL_cons (nk:Nat) (x:Int) (l:List Int):rulesL nk (x::l)=(if (nk:Int)≤x then[x - nk] else[]) ++ rulesL nk l:=rfl
theorem lenR_sumQ {nk:Nat} {f:Nat→Int}:∀ (row:List Int) (acc:Int),0≤acc→acc≤65537→(∀ x,x ∈ row→(nk:Int)≤x→0≤f (x - nk).toNat) →
   lenR nk f row acc=min (acc+((row.length:Int) - (rulesL nk row).length)+sumL f ((rulesL nk row).map Int.toNat)) 65537
 | [],acc,h0,h1,_=>by unfold lenR;simp[rulesL,sumL];omega
 | x :: xs, acc, h0, h1, h => by
   have hr:=fun y hy=>h y (List.mem_cons_of_mem _ hy)
   have hs:=(sumL_ge f ((rulesL nk xs).map Int.toNat)).1
   have hl:=rulesL_len (nk:=nk) xs
   unfold lenR
   rw[rulesL_cons]
   by_cases hk:(nk:Int)≤x
   · have hf:=h x (by simp) hk
     rw[if_pos hk,if_pos hk,if_neg (by omega),lenR_sumQ xs _ (by omega) (by omega) hr]
     simp only[List.singleton_append,List.map_cons,List.length_cons,sumL]
     rw[if_pos hf]
     push_cast
     omega
   · rw[if_neg hk,if_neg hk,lenR_sumQ xs _ (by omega) (by omega) hr]
     simp only[List.nil_append,List.length_cons]
     push_cast
     omega
theorem lenR_q {G:Gm} {f:Nat→Int} {q:Nat} (h:∀ x,x ∈ rlN G q→0≤f x):lenR G.nk f (G.prods.getD q pd0).right 0=min (kcN G q+sumL f (rlN G q)) 65537:=by
 rw[lenR_sumQ _ 0 (Int.le_refl _) (by decide) (fun x hx hk=>h _ (rlN_mem.2 ⟨x,hx,hk,rfl⟩))]
 unfold kcN rlN
 rw[List.length_map]
 congr 1
 omega
theorem lng_good {G:Gm} (f:Nat→Int) (q:Nat) (hq:q<G.prods.length) (h:∀ x,x ∈ rlN G q→0≤f x∧f x≤65537∧Lng G x (f x)):Lng G (lfQ G q) (min (kcN G q+sumL f (rlN G q)) 65537):=by
 have e:=lenR_q (G:=G) (f:=f) (q:=q) (fun x hx=>(h x hx).1)
 rw[← e]
 have hk:0≤kcN G q:=by unfold kcN rlN;rw[List.length_map];have:=rulesL_len (nk:=G.nk) (G.prods.getD q pd0).right;omega
 have hs:=(sumL_ge f (rlN G q)).1
 exact .mk _ (mem_getP hq) f (fun x hx hkx=>(h _ (rlN_mem.2 ⟨x,hx,hkx,rfl⟩)).2.2) (by rw[e];omega)
theorem kcN_nn (G:Gm) (q:Nat):0≤kcN G q:=by unfold kcN rlN;rw[List.length_map];have:=rulesL_len (nk:=G.nk) (G.prods.getD q pd0).right;omega
abbrev LsI (G:Gm) (L mi su:Nat→Int) (H:Nat→Option Int) (rem:List Nat):Prop:=KInv (lfQ G) (rlN G) (kcN G) G.prods.length (Lng G) 65537 L mi su H rem
theorem ls_end {G:Gm} {L mi su:Nat→Int} {H:Nat→Option Int} (h:LsI G L mi su H []) (hH:∀ r,H r=none):LeastIs G L:=by
 obtain⟨h1,h2⟩:=kinv_end h hH
 refine lng_done h1 (fun i hi=>?_)
 rintro⟨h3,h4⟩
 have hall:∀ x,x ∈ rlN G i→0≤L x:=fun x hx=>by
   obtain⟨y,hy,hk,rfl⟩:=rlN_mem.1 hx
   exact lenR_all _ 0 (Int.le_refl _) h3 y hy hk
 have h5:=h2 i hi hall
 rw[lenR_q hall] at h4
 unfold lfQ at h5
 omega
theorem ls_pop {G:Gm} {L mi su:Nat→Int} {H:Nat→Option Int} {r:Nat} {v:Int} (h:LsI G L mi su H []) (hr:H r=some v) (hmin:∀ s u,H s=some u→v≤u) :
   L r<0∧0≤v∧v≤65537∧LsI G (upZ L r v) (dcM (useN G r) mi) (fun q=>su q+v * ((useN G r).count q:Nat)) (upH H r none) (dcR (useN G r) mi) :=
 kinv_pop (uses:=useN G) (fun q r hq=>useN_count hq) (fun q r hq=>useN_lt hq) (fun q _=>kcN_nn G q) (by decide) (fun f q hq hx=>lng_good f q hq hx) h hr hmin
end Go.Proofs.YtagohbpbgjelaaaGreatDoor

namespace Go.Proofs.YtagohbpbgjelaaaGreatDoor
open Go.RowKit

theorem newList_any (w:World):Calls Tryz.prog 106 #[] w fun e w'=>e=.returned (.pointer (some ⟨w.heap.size,0,none⟩))∧w'=w.alloc (.cells #[.slice none 0 0,.map none] 191):=by
 go_enter Tryz.func106,Tryz.ntmps106
 go_wp2
 go_ret
 exact⟨rfl,rfl⟩
structure LsAt (B:Nat) (w V:World) (n np bb mb sb tb:Nat) (L su:Nat→Int) (ml:List Int) (O:Nat→Prop) (H:Nat→Option Int):Prop where
 ls:V.rowIs bb 3 n (fun r=>.int .i64 (L r))
 ms:V.ownsRow B 3 1 (.slice (some ⟨mb,0,none⟩) np np) ml.length (vints ml)
 mln:ml.length=np
 sm:V.rowIs sb 3 np (fun q=>.int .i64 (su q))
 td:LstH V tb O H
 o1:¬ O bb
 o2:¬ O mb
 o3:¬ O sb
 n1:bb≠mb
 n2:bb≠sb
 n3:mb≠sb
 ob:∀ k,O k→B≤k
 b1:B≤bb
 b2:B≤mb
 b3:B≤sb
 bl:Below B w V
section
variable {B:Nat} {w V V':World} {n np bb mb sb tb:Nat} {L su:Nat→Int} {ml:List Int} {O:Nat→Prop} {H:Nat→Option Int}
theorem lsAt_below (h:LsAt B w V n np bb mb sb tb L su ml O H) (hB:B≤V.heap.size) (hb:Below V.heap.size V V'):LsAt B w V' n np bb mb sb tb L su ml O H :=
 ⟨h.ls.of_block (hb.block _ h.ls.lt),own_blkB h.ms hb,h.mln,h.sm.of_block (hb.block _ h.sm.lt),lstH_off h.td hb,h.o1,h.o2,h.o3,h.n1,h.n2,h.n3,h.ob,h.b1,h.b2,h.b3,h.bl.trans (below_le hb hB)⟩
theorem lsAt_push (h:LsAt B w V n np bb mb sb tb L su ml O H) (hB:B≤V.heap.size) {O':Nat→Prop} {H':Nat→Option Int} (hf:Fr O V V') (ht:LstH V' tb O' H') (hO:∀ k,O' k→O k∨V.heap.size≤k):LsAt B w V' n np bb mb sb tb L su ml O' H':=by
 have h1:=h.ls.lt
 have h2:=h.sm.lt
 have h3:=(h.ms.lt mb rfl).2
 refine⟨h.ls.of_block (hf.2.1 _ h1 h.o1),own_blk h.ms (fun k hk=>?_),h.mln,h.sm.of_block (hf.2.1 _ h2 h.o3),ht,fun ho=>(hO _ ho).elim h.o1 (by omega),fun ho=>(hO _ ho).elim h.o2 (by omega),fun ho=>(hO _ ho).elim h.o3 (by omega),h.n1,h.n2,h.n3,fun k hk=>(hO k hk).elim (h.ob k) (by omega),h.b1,h.b2,h.b3,h.bl.trans (fr_below hf hB h.ob)⟩
 have e:mb=k:=by simpa [Value.ownBlock] using hk
 subst e
 exact hf.2.1 _ h3 h.o2
theorem lstH_set {b o:Nat} {v:Value} (h:LstH V tb O H) (hn:¬ O b):LstH (V.setCell ⟨b,o,none⟩ v) tb O H:=by
 obtain⟨ts,h1,h2,h3⟩:=h
 refine⟨ts,Wk.lst_off h1 (O':=(· = b)) (Wk.off_set (O:=(· = b)) (p:=⟨b,o,none⟩) (Wk.off_refl _ _) (.inl rfl) _) (fun k hk e=>hn (by have e:k=b:=e;rw[← e];exact hk)),h2,h3⟩
theorem lsAt_ls (h:LsAt B w V n np bb mb sb tb L su ml O H) (r:Nat) (v:Int):LsAt B w (V.setCell ⟨bb,r,none⟩ (.int .i64 v)) n np bb mb sb tb (upZ L r v) su ml O H :=
 ⟨(h.ls.set r _).congr (fun q _=>by unfold upZ;split <;> rfl),own_set h.ms (by simp[Value.ownBlock];exact fun e=>h.n1 e.symm),h.mln,h.sm.of_block (heap_other V (fun e=>h.n2 e.symm)),lstH_set h.td h.o1,h.o1,h.o2,h.o3,h.n1,h.n2,h.n3,h.ob,h.b1,h.b2,h.b3,h.bl.setCell h.b1 _⟩
theorem lsAt_sm (h:LsAt B w V n np bb mb sb tb L su ml O H) (q:Nat) (v:Int):LsAt B w (V.setCell ⟨sb,q,none⟩ (.int .i64 v)) n np bb mb sb tb L (upZ su q v) ml O H :=
 ⟨h.ls.of_block (heap_other V h.n2),own_set h.ms (by simp[Value.ownBlock];exact h.n3),h.mln,(h.sm.set q _).congr (fun q _=>by unfold upZ;split <;> rfl),lstH_set h.td h.o3,h.o1,h.o2,h.o3,h.n1,h.n2,h.n3,h.ob,h.b1,h.b2,h.b3,h.bl.setCell h.b3 _⟩
end
structure RcM (w W:World) (np mb sb:Nat) (ml:List Int):Prop where
 ms:W.ownsRow w.heap.size 3 1 (.slice (some ⟨mb,0,none⟩) np np) ml.length (vints ml)
 sm:W.rowIs sb 3 np (fun _=>.int .i64 0)
 ne:mb≠sb
 lo:w.heap.size≤sb
 bl:Below w.heap.size w W
theorem rcm_a {w W3:World} {np mb:Nat} {ml:List Int} (ho:W3.ownsRow w.heap.size 3 1 (.slice (some ⟨mb,0,none⟩) np np) ml.length (vints ml)) (hb:Below w.heap.size w W3):RcM w (W3.alloc (.cells (madeCells #[.int .i64 0] np) 3)) np mb W3.heap.size ml:=by
 have hs:=hb.size
 have h1:=(ho.lt mb rfl).2
 exact⟨ho.alloc _,World.rowIs_made _ _ _ _,by omega,by omega,hb.alloc hs _⟩
theorem rcm_b {w W3:World} {np mb:Nat} {ml:List Int} (ho:W3.ownsRow (w.alloc (.cells (madeCells #[.int .i64 0] np) 3)).heap.size 3 1 (.slice (some ⟨mb,0,none⟩) np np) ml.length (vints ml)) (hb:Below (w.alloc (.cells (madeCells #[.int .i64 0] np) 3)).heap.size (w.alloc (.cells (madeCells #[.int .i64 0] np) 3)) W3):RcM w W3 np mb w.heap.size ml:=by
 have hs:(w.alloc (.cells (madeCells #[.int .i64 0] np) 3)).heap.size=w.heap.size+1:=by simp
 have h1:=(ho.lt mb rfl).1
 have hr:=World.rowIs_made w (.int .i64 0) np 3
 exact⟨own_base ho (by omega),hr.of_block (hb.block _ (by omega)),by omega,Nat.le_refl _,((Below.refl _ _).alloc (Nat.le_refl _) _).trans (below_le hb (by omega))⟩
def remK (G:Gm) (k:Nat):List Nat:=((List.range G.prods.length).drop k).filter fun q=>decide (rlN G q=[])
theorem remK_step (G:Gm) (k:Nat) (hk:k<G.prods.length):remK G k=if rlN G k=[] then k::remK G (k+1) else remK G (k+1):=by
 unfold remK
 rw[List.drop_eq_getElem_cons (by simpa using hk),List.getElem_range,List.filter_cons]
 simp
theorem remK_end (G:Gm):remK G G.prods.length=[]:=by
 unfold remK
 rw[List.drop_eq_nil_of_le (by simp)]
 rfl
theorem ls_first {G:Gm} {k:Nat} {H:Nat→Option Int} (hk:k<G.prods.length) (h:LsI G (fun _ => -1) (fun q=>(rlN G q).length) (kcN G) H (remK G k)) (hkc:kcN G k≤65537):LsI G (fun _ => -1) (fun q=>(rlN G q).length) (kcN G) (if (rlN G k).length=0 then pushH H (lfQ G k) (kcN G k) else H) (remK G (k+1)):=by
 rw[remK_step G k hk] at h
 by_cases e:rlN G k=[]
 · rw[if_pos e] at h
   rw[if_pos (by rw[e];rfl)]
   have:=kinv_push h (by decide)
   rw[show min (kcN G k) 65537=kcN G k by omega] at this
   exact this
 · rw[if_neg e] at h
   rw[if_neg (fun h0=>e (List.eq_nil_of_length_eq_zero h0))]
   exact h
theorem sumL_le {L:Nat→Int}:∀ (l:List Nat),(∀ x,L x≤65537)→sumL L l≤65537 * l.length
 | [],_=>by simp[sumL]
 | x :: l, h => by
   have:=sumL_le l h
   have:=h x
   unfold sumL
   rw[List.length_cons]
   push_cast
   split <;> omega
theorem rlN_len (G:Gm) (q:Nat):(rlN G q).length≤(G.prods.getD q pd0).right.length:=by unfold rlN;rw[List.length_map];exact rulesL_len _
theorem ls_su {G:Gm} (hG:GOk G) {L mi su:Nat→Int} {H:Nat→Option Int} {rem:List Nat} (h:LsI G L mi su H rem) {q:Nat} (hq:q<G.prods.length):0≤su q∧su q≤10000000:=by
 have h1:=h.suE q hq
 have h2:=hG.pr _ (mem_getP hq)
 have h3:=rlN_len G q
 have h4:=sumL_le (L:=L) (rlN G q) (fun x=>by rcases h.lg x with h | h <;> omega)
 have h5:=(sumL_ge L (rlN G q)).1
 have h6:=kcN_nn G q
 have h7:kcN G q≤64:=by unfold kcN;omega
 have h8:(65537:Int) * (rlN G q).length≤65537 * 64:=by omega
 omega
theorem own_raise {w:World} {B B' e s n:Nat} {v:Value} {xs:List Value} (h:w.ownsRow B e s v n xs) (hB:∀ k,v.ownBlock=some k→B'≤k):w.ownsRow B' e s v n xs:=by
 refine⟨h.1,?_⟩
 rcases h.2 with h0 | ⟨g,cap,cur,hv,h1,rest⟩
 · exact .inl h0
 · exact .inr ⟨g,cap,cur,hv,hB g (by rw[hv];rfl),rest⟩
structure RyAt (S:Nat) (V:World) (u:Value) (l:List Nat) (O:Nat→Prop):Prop where
 own:V.ownsRow S 3 1 u (castL l).length (vints (castL l))
 no:∀ k,u.ownBlock=some k→¬ O k
theorem lsAt_rdy {B M:Nat} {w V W:World} {n np bb mb sb tb:Nat} {L su:Nat→Int} {ml:List Int} {O:Nat→Prop} {H:Nat→Option Int} {P:List Nat} {u:Value} (h:LsAt B w V n np bb mb sb tb L su ml O H) (hB:B≤V.heap.size) (hr:RdI M V (.slice (some ⟨mb,0,none⟩) np np) ml P u W) :
   ∃ ml',atZ ml'=dcM P (atZ ml)∧LsAt B w W n np bb mb sb tb L su ml' O H∧RyAt V.heap.size W u (dcR P (atZ ml)) O:=by
 obtain⟨hrd,⟨ml',hl',ha',hms'⟩,hf⟩:=hr
 have hne:∀ k,(Value.slice (some ⟨mb,0,none⟩) np np).ownBlock=some k→k=mb:=fun k hk=>by
   have e:mb=k:=by simpa [Value.ownBlock] using hk
   exact e.symm
 have hb1:=h.ls.lt
 have hb2:=h.sm.lt
 refine⟨ml',ha',⟨h.ls.of_block (hf.2.1 _ hb1 (fun e=>h.n1 (hne _ e))),own_raise hms' (fun k hk=>by rw[hne k hk];exact h.b2),hl'.trans h.mln,h.sm.of_block (hf.2.1 _ hb2 (fun e=>h.n3 (hne _ e).symm)),?_,h.o1,h.o2,h.o3,h.n1,h.n2,h.n3,h.ob,h.b1,h.b2,h.b3,h.bl.trans (fr_below hf hB (fun k hk=>by rw[hne k hk];exact h.b2))⟩,⟨hrd,fun k hk ho=>?_⟩⟩
 · obtain⟨ts,h1,h2,h3⟩:=h.td
   exact⟨ts,Wk.lst_off h1 (off_of_fr hf) (fun k hk e=>h.o2 (by rw[← hne k e];exact hk)),h2,h3⟩
 · obtain⟨ts,h1,h2,h3⟩:=h.td
   have e1:=h1.lt k ho
   have e2:=(hrd.lt k hk).1
   omega
theorem ryAt_push {S:Nat} {V V':World} {u:Value} {l:List Nat} {O O':Nat→Prop} (h:RyAt S V u l O) (hf:Fr O V V') (hO:∀ k,O' k→O k∨V.heap.size≤k):RyAt S V' u l O' :=
 ⟨own_blk h.own (fun k hk=>hf.2.1 _ (h.own.lt k hk).2 (h.no k hk)),fun k hk ho=>(hO k ho).elim (h.no k hk) (by have:=(h.own.lt k hk).2;omega)⟩
theorem ryAt_below {S:Nat} {V V':World} {u:Value} {l:List Nat} {O:Nat→Prop} (h:RyAt S V u l O) (hb:Below V.heap.size V V'):RyAt S V' u l O :=
 ⟨own_blk h.own (fun k hk=>hb.block _ (h.own.lt k hk).2),h.no⟩
theorem ls_mi {G:Gm} (hG:GOk G) {L su:Nat→Int} {ml:List Int} {H:Nat→Option Int} {rem:List Nat} (h:LsI G L (atZ ml) su H rem) (hl:ml.length=G.prods.length):∀ q,-1048576≤atZ ml q∧atZ ml q≤1048576:=fun q=>by
 by_cases hq:q<G.prods.length
 · rw[h.miE q hq]
   have h2:(rlN G q).countP (fd L)≤(rlN G q).length:=List.countP_le_length
   have h3:=rlN_len G q
   have h5:=hG.pr _ (mem_getP hq)
   omega
 · have:atZ ml q=0:=by unfold atZ;rw[List.getD_eq_getElem?_getD,List.getElem?_eq_none (by omega)];rfl
   omega
end Go.Proofs.YtagohbpbgjelaaaGreatDoor

namespace Go.Proofs.YtagohbpbgjelaaaGreatDoor
open Go.RowKit

theorem smG_ok {G:Gm} (hG:GOk G):smG G:=fun p hp=>by have:=hG.pr p hp;omega
theorem symsTo_in {n:Nat} {row:List Int}:symsTo n row row.length↔symsIn n row:=by
 constructor
 · intro h x hx
   obtain⟨i,hi,rfl⟩:=List.getElem_of_mem hx
   have:=h i hi
   rw[List.getD_eq_getElem?_getD,List.getElem?_eq_getElem hi] at this
   exact this
 · intro h i hi
   exact h _ (mem_getD hi)
set_option maxHeartbeats 2000000 in
set_option maxRecDepth 100000 in
theorem firstno11:FirstNo 11:=fun G hc ka pa ra qa kc pc rc qc ro rn rowc w hin hsm=>by
 have hst:=gst_new (kc:=kc) (pc:=pc) (rc:=rc) (qc:=qc) (Nat.le_refl _) hin 26
 have hb1:Below w.heap.size w (w.alloc (.cells #[.slice ka G.kinds.length kc,.slice pa G.precs.length pc,.slice ra G.rules.length rc,.slice qa G.prods.length qc,.int .i64 G.start] 26)):=(Below.refl _ _).alloc (Nat.le_refl _) _
 have HM:=hide (mayBe_any G ka pa ra qa kc pc rc qc _ (gin_up hin hb1) hsm)
 rw[hc] at HM
 have Hb1:=hide hb1
 have hnot:=run_not
 clear hst hb1 hin hsm hc
 go_enter Tryz.func11,Tryz.ntmps11
 go_wp2_with fail
 refine(uh HM).mono ?_
 rintro e w2 ⟨rfl,hb2⟩
 have Hb2:=hide ((uh Hb1).trans (below_le hb2 (by simp)))
 clear hb2
 go_wp2
 refine bodyPost_ret (v:=.tuple #[.slice none 0 0,.bool false,.int .i64 130]) ?zz9 rfl ⟨rfl,uh Hb2⟩
 case zz9=>simp[results,Tryz.results11,go_sem]
set_option maxHeartbeats 2000000 in
set_option maxRecDepth 100000 in
theorem firstyes11:FirstYes 11:=fun G hc ka pa ra qa kc pc rc qc ro rowc row hl hs w hin hrow=>by
 have hG:=check_ok hc
 have hst:=gst_new (kc:=kc) (pc:=pc) (rc:=rc) (qc:=qc) (Nat.le_refl _) hin 26
 have hb1:Below w.heap.size w (w.alloc (.cells #[.slice ka G.kinds.length kc,.slice pa G.precs.length pc,.slice ra G.rules.length rc,.slice qa G.prods.length qc,.int .i64 G.start] 26)):=(Below.refl _ _).alloc (Nat.le_refl _) _
 have HM:=hide (mayBe_any G ka pa ra qa kc pc rc qc _ (gin_up hin hb1) (smG_ok hG))
 rw[hc] at HM
 have Hb1:=hide hb1;have Hst:=hide hst;have Hin:=hide hin;have Hrow:=hide hrow;have Hs:=hide hs
 have hnot:=run_not
 have hs1:(w.alloc (.cells #[.slice ka G.kinds.length kc,.slice pa G.precs.length pc,.slice ra G.rules.length rc,.slice qa G.prods.length qc,.int .i64 G.start] 26)).heap.size=w.heap.size+1:=by simp
 clear hst hb1 hin hc hrow hs
 go_enter Tryz.func11,Tryz.ntmps11
 go_wp2_with fail
 generalize w.alloc (.cells #[.slice ka G.kinds.length kc,.slice pa G.precs.length pc,.slice ra G.rules.length rc,.slice qa G.prods.length qc,.int .i64 G.start] 26)=w1 at *
 refine(uh HM).mono ?_
 rintro e w2 ⟨rfl,hb2⟩
 have hs2:=hb2.size
 have hbw2:=(uh Hb1).trans (below_le hb2 (by omega))
 have hst2:=gst_kept (below_le hb2 (by omega)) (Nat.le_refl _) (uh Hst)
 have d0:=hst2.c0;have d1:=hst2.c1;have d2:=hst2.c2;have d3:=hst2.c3;have d4:=hst2.c4
 have hk3:=hG.k3;have hr2:=hG.r2
 unfold Gm.nk at hk3
 unfold Gm.nr at hr2
 have HA:=hide (areSymbols_any ka pa ra qa G.kinds.length kc G.precs.length pc G.rules.length rc G.prods.length qc G.start (by omega) ro rowc row hl w.heap.size w2 hbw2.size (nrow_kept hbw2 (uh Hrow)))
 have hdec:decide (symsTo (G.kinds.length+G.rules.length) row row.length)=true:=decide_eq_true (symsTo_in.2 (uh Hs))
 rw[hdec] at HA
 have Hbw2:=hide hbw2
 have hs2w:w.heap.size+1≤w2.heap.size:=by omega
 clear hb2 hbw2 hst2 HM hdec
 go_wp2_with fail
 refine(uh HA).mono ?_
 rintro e w3 ⟨rfl,hb3⟩
 have hs3:=hb3.size
 have hbw3:=(uh Hbw2).trans (below_le hb3 (by omega))
 have e0:=(hb3.cell (p:=⟨w.heap.size,0,none⟩) (by show w.heap.size<_;omega)).trans d0
 have e1:=(hb3.cell (p:=⟨w.heap.size,1,none⟩) (by show w.heap.size<_;omega)).trans d1
 have e2:=(hb3.cell (p:=⟨w.heap.size,2,none⟩) (by show w.heap.size<_;omega)).trans d2
 have e3:=(hb3.cell (p:=⟨w.heap.size,3,none⟩) (by show w.heap.size<_;omega)).trans d3
 have e4:=(hb3.cell (p:=⟨w.heap.size,4,none⟩) (by show w.heap.size<_;omega)).trans d4
 have HNG:=hide (newGrammar_any G hG ka pa ra qa kc pc rc qc w3 (gin_up (uh Hin) hbw3))
 have Hbw3:=hide hbw3
 clear hb3 hbw3 d0 d1 d2 d3 d4 HA
 go_wp2_with fail
 refine(uh HNG).mono ?_
 rintro e w4 ⟨gb,ob,ub,rfl,hg4,hb4⟩
 have hs4:=hb4.size
 have HNB:=hide (newBeginnings_any G hG ka pa ra qa kc pc rc qc gb ob ub w4.heap.size w4 (Nat.le_refl _) hg4)
 have Hg4:=hide hg4
 have Hbw4:=hide ((uh Hbw3).trans (below_le hb4 (by have:=(uh Hbw3).size;omega)))
 clear hg4 hb4 HNG e0 e1 e2 e3 e4
 go_wp2_with fail
 refine(uh HNB).mono ?_
 rintro e w5 ⟨bb,nb,sb,sc,A,rfl,hbg5,hb5⟩
 have hs5:=hb5.size
 have hbw5:=(uh Hbw4).trans (below_le hb5 (uh Hbw4).size)
 have hg5:=gr_kept (uh Hg4) hb5
 have hgl:=hg5.lt
 have HOf:=hide (of_any G hG ka kc gb bb nb sb sc _ A ro rowc row hl (uh Hs) w5 (by omega) (by unfold World.cell?;rw[hg5.box];rfl) hbg5 (nrow_big hbw5.size (nrow_kept hbw5 (uh Hrow))))
 have Hbw5:=hide hbw5
 clear hbg5 hb5 hg5 HNB hbw5
 go_wp2_with fail
 refine(uh HOf).mono ?_
 rintro e w6 ⟨S,O,f,rfl,hs6,hf6,hb6⟩
 have hs6z:=hb6.size
 have hbw6:=(uh Hbw5).trans (below_le hb6 (uh Hbw5).size)
 have HAl:=hide (all_n S O f (begB G.nk (nullF G) (fstF G) row) G.nk hf6 (fun k hk=>by
   obtain⟨i,hi,-,⟨h1,h2⟩ | ⟨-,h2⟩⟩:=begB_iff.1 hk
   · have h3:=uh Hs _ (mem_getD hi);omega
   · exact fst_lt hG ((fstF_is _ _ _).1 h2)) w6 hs6 (tb_up (uh Hin).tab (Nat.le_refl _) hbw6))
 have Hbw6:=hide hbw6
 generalize hem:emptyB G.nk (nullF G) row=em at *
 clear hs6 hf6 hb6 HOf hbw6
 go_wp2_with fail
 refine(uh HAl).mono ?_
 rintro e w7 ⟨v7,rfl,ho7,hb7⟩
 obtain⟨va,vc,rfl⟩:=own_form ho7
 obtain⟨_,_,he7,hn7⟩:=own_nrow ho7
 cases he7
 have Hn7:=hide hn7
 have Hbw7:=hide ((uh Hbw6).trans (below_le hb7 (uh Hbw6).size))
 clear ho7 hb7 hn7
 go_wp2
 refine bodyPost_ret (v:=.tuple #[.slice va (posL (boolsOf (begB G.nk (nullF G) (fstF G) row) G.nk)).length vc,.bool em,.int .i64 0]) ?zz9 rfl ⟨va,vc,by rw[hem];rfl,uh Hn7,uh Hbw7⟩
 case zz9=>simp[results,Tryz.results11,go_sem]
set_option maxHeartbeats 2000000 in
set_option maxRecDepth 100000 in
theorem firstout11:FirstOut 11:=fun G hc ka pa ra qa kc pc rc qc ro rowc row hl hs w hin hrow=>by
 have hG:=check_ok hc
 have hst:=gst_new (kc:=kc) (pc:=pc) (rc:=rc) (qc:=qc) (Nat.le_refl _) hin 26
 have hb1:Below w.heap.size w (w.alloc (.cells #[.slice ka G.kinds.length kc,.slice pa G.precs.length pc,.slice ra G.rules.length rc,.slice qa G.prods.length qc,.int .i64 G.start] 26)):=(Below.refl _ _).alloc (Nat.le_refl _) _
 have HM:=hide (mayBe_any G ka pa ra qa kc pc rc qc _ (gin_up hin hb1) (smG_ok hG))
 rw[hc] at HM
 have Hb1:=hide hb1;have Hst:=hide hst;have Hrow:=hide hrow;have Hs:=hide hs
 have hnot:=run_not
 have hs1:(w.alloc (.cells #[.slice ka G.kinds.length kc,.slice pa G.precs.length pc,.slice ra G.rules.length rc,.slice qa G.prods.length qc,.int .i64 G.start] 26)).heap.size=w.heap.size+1:=by simp
 clear hst hb1 hin hc hrow hs
 go_enter Tryz.func11,Tryz.ntmps11
 go_wp2_with fail
 generalize w.alloc (.cells #[.slice ka G.kinds.length kc,.slice pa G.precs.length pc,.slice ra G.rules.length rc,.slice qa G.prods.length qc,.int .i64 G.start] 26)=w1 at *
 refine(uh HM).mono ?_
 rintro e w2 ⟨rfl,hb2⟩
 have hs2:=hb2.size
 have hbw2:=(uh Hb1).trans (below_le hb2 (by omega))
 have hst2:=gst_kept (below_le hb2 (by omega)) (Nat.le_refl _) (uh Hst)
 have d0:=hst2.c0;have d1:=hst2.c1;have d2:=hst2.c2;have d3:=hst2.c3;have d4:=hst2.c4
 have hk3:=hG.k3;have hr2:=hG.r2
 unfold Gm.nk at hk3
 unfold Gm.nr at hr2
 have HA:=hide (areSymbols_any ka pa ra qa G.kinds.length kc G.precs.length pc G.rules.length rc G.prods.length qc G.start (by omega) ro rowc row hl w.heap.size w2 hbw2.size (nrow_kept hbw2 (uh Hrow)))
 have hdec:decide (symsTo (G.kinds.length+G.rules.length) row row.length)=false:=decide_eq_false (fun h=>uh Hs (symsTo_in.1 h))
 rw[hdec] at HA
 have Hbw2:=hide hbw2
 have hs2w:w.heap.size+1≤w2.heap.size:=by omega
 clear hb2 hbw2 hst2 HM hdec
 go_wp2_with fail
 refine(uh HA).mono ?_
 rintro e w3 ⟨rfl,hb3⟩
 have Hbw3:=hide ((uh Hbw2).trans (below_le hb3 (by omega)))
 clear hb3
 go_wp2
 refine bodyPost_ret (v:=.tuple #[.slice none 0 0,.bool false,.int .i64 1]) ?zz9 rfl ⟨rfl,uh Hbw3⟩
 case zz9=>simp[results,Tryz.results11,go_sem]
theorem first11:FirstC 11:=firstC_of firstyes11 firstout11 firstno11
end Go.Proofs.YtagohbpbgjelaaaGreatDoor

namespace Go.Proofs.YtagohbpbgjelaaaGreatDoor
open Go.RowKit

theorem everyProd_any (q:Nat) (w:World):Calls Tryz.prog 33 (#[.int .i64 (q:Int)] ++ #[]) w fun e w'=>e=.returned (.bool true)∧w'=w:=by
 show Calls Tryz.prog 33 #[.int .i64 (q:Int)] w _
 go_enter Tryz.func33,Tryz.ntmps33
 go_wp2
 go_ret
 exact⟨rfl,rfl⟩
theorem callF33:∀ args W,Sem.run Tryz.prog (callFunc 33 args) W=.ok (.enter 33 args) W:=fun _ _=>by simp[callFunc,Tryz.func33,Tryz.f33,go_sem,Result.andThen]
end Go.Proofs.YtagohbpbgjelaaaGreatDoor

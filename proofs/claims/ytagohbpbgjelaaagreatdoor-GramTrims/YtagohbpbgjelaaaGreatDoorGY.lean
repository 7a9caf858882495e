/- The code's newBeginnings. -/
import Derived.Test.YtagohbpbgjelaaaGreatDoorGX
namespace Go.Proofs.YtagohbpbgjelaaaGreatDoor
open Go.RowKit

def zaA (n tb:Nat) (V:Nat→Value) (k:Nat):Prop:=k=tb∨∃ r,r<n∧(V r).ownBlock=some k
theorem zbg {O:Nat→Prop} {w:World} {tb n:Nat} {V:Nat→Value} {F:Nat→List Int} (h:TabV O w tb n V F):TabV (zaA n tb V) w tb n V F∧∀ k,zaA n tb V k→O k:=by
 have hO:∀ k,zaA n tb V k→O k:=fun k hk=>by
  rcases hk with rfl | ⟨r,hr,hk⟩
  ·exact h.own
  ·exact(h.rows r hr).2 k hk
 exact⟨⟨.inl rfl,fun k hk=>h.lt k (hO k hk),h.row,fun r hr=>⟨(h.rows r hr).1,fun k hk=>.inr ⟨r,hr,hk⟩⟩,h.apart⟩,hO⟩
theorem zdj {O:Nat→Prop} {w:World} {tb n:Nat} {V:Nat→Value} {F:Nat→List Int} (h:TabV O w tb n V F) {k:Nat} (hk:zaA n tb V k):∃ cs t,w.heap[k]? = some (.cells cs t (0,0))∧(t=27∨t=3):=by
 rcases hk with rfl | ⟨r,hr,hk⟩
 ·obtain⟨cs,h1⟩:=zax h.row;exact⟨cs,27,h1,.inl rfl⟩
 ·obtain⟨cs,h1⟩:=zcJ (h.rows r hr).1 hk;exact⟨cs,3,h1,.inr rfl⟩
def zhj (M:Nat) (w:World) (tb n:Nat) (W:Nat→List Nat):Prop:=∃ V,TabV (zaA n tb V) w tb n V (fun r=>zai (W r))∧∀ k,zaA n tb V k→M≤k
theorem zfT {M:Nat} {O:Nat→Prop} {w w':World} {tb n:Nat} {W:Nat→List Nat} (h:zhj M w tb n W) (hf:Fr O w w') (hn:∀ k cs t,O k→w.heap[k]? = some (.cells cs t (0,0))→t≠27∧t≠3):zhj M w' tb n W:=by
 obtain⟨V,h1,h2⟩:=h
 refine⟨V,zdY h1 hf (fun k hk ho=>?_),h2⟩
 obtain⟨cs,t,h3,h4⟩:=zdj h1 hk
 have:=hn k cs t ho h3
 rcases h4 with h4 | h4
 ·exact this.1 h4
 ·exact this.2 h4
theorem zdZ {M:Nat} {w w':World} {tb n:Nat} {W:Nat→List Nat} (h:zhj M w tb n W) (hb:Below w.heap.size w w'):zhj M w' tb n W:=zfT (O:=fun _=>False) h (za1 hb) (fun _ _ _ h=>h.elim)
theorem zmi {M B:Nat} {w w':World} {tb n:Nat} {W:Nat→List Nat} (h:zhj M w tb n W) (hf:Fr (zrO B w) w w'):zhj M w' tb n W :=
 zfT h hf (fun k cs t ho hk=>by
  refine⟨fun e=>?_,fun e=>?_⟩
  ·subst e;exact zaL hk (by decide) (by decide) ho.2
  ·subst e;exact zaL hk (by decide) (by decide) ho.2)
theorem zho {M:Nat} {w:World} {tb n:Nat} {W:Nat→List Nat} (h:zhj M w tb n W):zib w.heap.size w tb n W∧(∀ r a c b o,r<n→w.cell? ⟨tb,r,none⟩=some (.slice (some ⟨b,o,none⟩) a c)→∃ cs,w.heap[b]? = some (.cells cs 3 (0,0)))∧∃ cs,w.heap[tb]? = some (.cells cs 27 (0,0)):=by
 obtain⟨V,h1,h2⟩:=h
 refine⟨⟨h1.lt _ h1.own,fun r hr=>?_⟩,fun r a c b o hr hc=>?_,zax h1.row⟩
 ·obtain⟨a,c,-,h3,-,h4⟩:=zbC h1 hr
  rw[zak] at h3
  exact⟨a,c,h3,h4⟩
 ·have h3:=h1.row.cell hr
  rw[hc] at h3
  have hv:(V r).ownBlock=some b:=by
   have:V r=.slice (some ⟨b,o,none⟩) a c:=by simpa using h3.symm
   rw[this];rfl
  exact zcJ (h1.rows r hr).1 hv
structure NB (M:Nat) (w:World) (n bb nb sb sc wb gb:Nat) (A:Nat→Nat) (nu:Nat→Bool) (C:Nat→Int→Bool) (W:Nat→List Nat):Prop where
 bx:w.heap[bb]? = some (.cells #[.pointer (some ⟨gb,0,none⟩),.slice (some ⟨nb,0,none⟩) n n,.slice (some ⟨sb,0,none⟩) n sc] 64 (0,0))
 nu:w.rowIs nb 4 n (fun r=>.bool (nu r))
 st:∃ OO,SetsV M w sb n A OO id C
 tab:zhj M w wb n W
 b1:M≤bb
 b2:M≤nb
section
variable {M:Nat} {w w':World} {n bb nb sb sc wb gb:Nat} {A:Nat→Nat} {nu:Nat→Bool} {C C':Nat→Int→Bool} {W W':Nat→List Nat}
theorem zhK (h:NB M w n bb nb sb sc wb gb A nu C W) (hb:Below w.heap.size w w'):NB M w' n bb nb sb sc wb gb A nu C W:=by
 obtain⟨OO,h1⟩:=h.st
 exact⟨(hb.block _ (Array.getElem?_eq_some_iff.1 h.bx).1).trans h.bx,h.nu.of_block (hb.block _ h.nu.lt),⟨OO,zbb h1 hb⟩,zdZ h.tab hb,h.b1,h.b2⟩
theorem nb_set (h:NB M w n bb nb sb sc wb gb A nu C W) (hf:Fr (zrO M w) w w') (hs:∃ OO,SetsV M w' sb n A OO id C'):NB M w' n bb nb sb sc wb gb A nu C' W:=by
 obtain⟨ns,hns⟩:=zax h.nu
 exact⟨(hf.2.1 _ (Array.getElem?_eq_some_iff.1 h.bx).1 (fun ho=>zaL h.bx (by decide) (by decide) ho.2)).trans h.bx,h.nu.of_block (hf.2.1 _ h.nu.lt (fun ho=>zaL hns (by decide) (by decide) ho.2)),hs,zmi h.tab hf,h.b1,h.b2⟩
theorem nb_way {O O':Nat→Prop} {V:Nat→Value} (h:NB M w n bb nb sb sc wb gb A nu C W) (hM:M≤w.heap.size) (hV:TabV (zaA n wb V) w wb n V (fun r=>zai (W r))∧∀ k,zaA n wb V k→M≤k) (hO:O=zaA n wb V) (hf:Fr O w w') (ht:zb8 O' w' wb n (fun r=>zai (W' r))) (hO':∀ k,O' k→O k∨w.heap.size≤k):NB M w' n bb nb sb sc wb gb A nu C W':=by
 subst hO
 obtain⟨OO,h1⟩:=h.st
 obtain⟨ns,hns⟩:=zax h.nu
 obtain⟨V',hV'⟩:=ht
 have hty:∀ k,zaA n wb V k→∃ cs t,w.heap[k]? = some (.cells cs t (0,0))∧(t=27∨t=3):=fun k hk=>zdj hV.1 hk
 have hno:∀ {k t:Nat} {cs:Array Value},w.heap[k]? = some (.cells cs t (0,0))→t≠27→t≠3→¬ zaA n wb V k:=fun {k t cs} hk n1 n2 ho=>by
  obtain⟨ds,u,h3,h4⟩:=hty k ho
  rw[hk] at h3
  simp only[Option.some.injEq,Obj.cells.injEq] at h3
  obtain⟨-,rfl,-⟩:=h3
  exact h4.elim n1 n2
 obtain⟨scs,hscs,-⟩:=h1.row
 refine⟨(hf.2.1 _ (Array.getElem?_eq_some_iff.1 h.bx).1 (hno h.bx (by decide) (by decide))).trans h.bx,h.nu.of_block (hf.2.1 _ h.nu.lt (hno hns (by decide) (by decide))),⟨OO,zjl h1 hf (fun k _ ho=>⟨fun e=>hno hscs (by decide) (by decide) (e▸ho),fun hs=>?_⟩)⟩,⟨V',(zbg hV').1,fun k hk=>?_⟩,h.b1,h.b2⟩
 ·obtain⟨cs,t,h3,h4⟩:=hs.2
  rcases h4 with rfl | rfl
  ·exact hno h3 (by decide) (by decide) ho
  ·exact hno h3 (by decide) (by decide) ho
 ·rcases hO' k ((zbg hV').2 k hk) with h3 | h3
  ·exact hV.2 k h3
  ·omega
end
theorem zgR (W:Nat→List Nat) (r y:Nat):zjf (fun r=>zai (W r)) r (zai (W r) ++ [(y:Int)])=fun s=>zai (upW W r y s):=by
 funext s
 unfold zjf upW
 by_cases e:s=r
 ·subst e;rw[if_pos rfl,if_pos rfl];simp[zai]
 ·rw[if_neg e,if_neg e]
structure NB0 (B:Nat) (w w':World) (n bb nb sb sc gb:Nat) (A:Nat→Nat) (nu:Nat→Bool) (C:Nat→Int→Bool):Prop where
 bx:w'.heap[bb]? = some (.cells #[.pointer (some ⟨gb,0,none⟩),.slice (some ⟨nb,0,none⟩) n n,.slice (some ⟨sb,0,none⟩) n sc] 64 (0,0))
 nu:w'.rowIs nb 4 n (fun r=>.bool (nu r))
 st:∃ OO,SetsV B w' sb n A OO id C
 b1:B≤bb
 b2:B≤nb
 bl:Below B w w'
theorem zqT {w W3 W4:World} {n nb sb sc gb:Nat} {A:Nat→Nat} {OO:Nat→Nat→Prop} {nu:Nat→Bool} (h3:W3.rowIs nb 4 n (fun r=>.bool (nu r))) (hb3:Below w.heap.size w W3) (hnb:w.heap.size≤nb) (hs:SetsV W3.heap.size W4 sb n A OO id (fun _ _=>false)) (hb4:Below W3.heap.size W3 W4) :
 NB0 w.heap.size w (W4.alloc (.cells #[.pointer (some ⟨gb,0,none⟩),.slice (some ⟨nb,0,none⟩) n n,.slice (some ⟨sb,0,none⟩) n sc] 64)) n W4.heap.size nb sb sc gb A nu (fun _ _=>false):=by
 have s3:=hb3.size
 have s4:=hb4.size
 have hal:Below W4.heap.size W4 (W4.alloc (.cells #[.pointer (some ⟨gb,0,none⟩),.slice (some ⟨nb,0,none⟩) n n,.slice (some ⟨sb,0,none⟩) n sc] 64)):=(Below.refl _ _).alloc (Nat.le_refl _) _
 have h5:=zbb hs hal
 refine⟨Go.Deep.blk_alloc_new _ _,(h3.of_block (hb4.block _ h3.lt)).of_block (hal.block _ (by have:=h3.lt;omega)),⟨OO,⟨h5.row,by have:=h5.tbB;omega,h5.rp,h5.set,fun r hr k hk=>by have:=h5.bl r hr k hk;omega,h5.ap⟩⟩,by omega,hnb,hb3.trans ((zab hb4 s3).trans (zab hal (by omega)))⟩
structure BgAt (M:Nat) (w:World) (G:Gm) (bb nb sb sc gb:Nat) (A:Nat→Nat):Prop where
 bx:w.heap[bb]? = some (.cells #[.pointer (some ⟨gb,0,none⟩),.slice (some ⟨nb,0,none⟩) G.rules.length G.rules.length,.slice (some ⟨sb,0,none⟩) G.rules.length sc] 64 (0,0))
 nu:w.rowIs nb 4 G.rules.length (fun r=>.bool (zaO G r))
 st:∃ OO rep C,SetsV M w sb G.rules.length A OO rep C∧∀ x,x<G.rules.length→∀ m,C (rep x) m=true↔0≤m∧Fst G x m.toNat
 b1:M≤bb
 b2:M≤nb
def BgPost (G:Gm) (gb:Nat) (w:World) (e:Ending) (w':World):Prop:=∃ bb nb sb sc A,e=.returned (.pointer (some ⟨bb,0,none⟩))∧BgAt w.heap.size w' G bb nb sb sc gb A∧Below w.heap.size w w'
set_option maxHeartbeats 2000000 in
set_option maxRecDepth 100000 in
theorem zfd (G:Gm) (hG:GOk G) (ka pa ra qa:Option Addr) (kc pc rc qc gb ob ub:Nat) (M:Nat) (w:World) (hM:M≤w.heap.size) (hg:GrAt M w G ka kc pa pc ra rc qa qc gb ob ub) :
 Calls Tryz.prog 30 #[.pointer (some ⟨gb,0,none⟩)] w fun e w'=>BgPost G gb w e w':=by
 have HN0:Hid (∀ W,Below w.heap.size w W→Calls Tryz.prog 76 #[.pointer (some ⟨gb,0,none⟩)] W fun e w'=>∃ b:Nat,e=.returned (.slice (some ⟨b,0,none⟩) G.rules.length G.rules.length)∧w'.rowIs b 4 G.rules.length (fun r=>.bool (zaO G r))∧W.heap.size≤b∧Below W.heap.size W w'):=zaa (fun W hW=>zfc G hG ka pa ra qa kc pc rc qc gb ob ub M W (by have:=hW.size;omega) (zaJ hg (zab hW hM)))
 have hbx:=hg.box
 have hr2:=hG.r2;have hr1:=hG.r1
 unfold Gm.nr at hr2 hr1
 have hgl:=hg.lt
 have c2:w.cell? ⟨gb,2,none⟩=some (.slice ra G.rules.length rc):=by unfold World.cell?;rw[hbx];rfl
 have HS:Hid (∀ W,Below w.heap.size w W→W.cell? ⟨gb,2,none⟩=some (.slice ra G.rules.length rc)∧True):=zaa (fun W hW=>⟨(hW.cell (p:=⟨gb,2,none⟩) (by show gb<_;omega)).trans c2,trivial⟩)
 have hS:Below w.heap.size w w:=Below.refl _ _
 have HNS:=zaa (zgd G.rules.length ⟨hr1,hr2⟩)
 have Hg:=zaa hg
 clear hg hbx
 go_enter Tryz.func30,Tryz.ntmps30
 go_wp2_with fail
 go_cut [3] (fun s W=>∃ bb nb sb sc A,s=.pointer (some ⟨bb,0,none⟩)∧NB0 w.heap.size w W G.rules.length bb nb sb sc gb A (zaO G) (fun _ _=>false))
 case first =>
  go_region_held3 (fun W:World=>W.cell? ⟨gb,2,none⟩=some (.slice ra G.rules.length rc)∧True)
   (first | exact uh HS _ hS | exact uh HS _ hS.drew | exact uh HS _ (hS.alloc hS.size _) | exact uh HS _ (hS.drew.alloc hS.size _) | fail)
   (first
    | (go_at_call 76;refine(uh HN0 _ (by first | exact hS | exact hS.drew | exact Below.drew hS)).mono ?_;rintro e W3 ⟨b3,rfl,hr3,hl3,hb3⟩;have Hb3:=zaa (show Below w.heap.size w W3 from⟨hb3.os,hb3.tape,hb3.output,hb3.size,hb3.block⟩);have Hr3:=zaa hr3;have hl3':w.heap.size≤b3:=hl3;have hS:=uh Hb3;clear hb3 hr3)
    | (go_at_call 77;refine(uh HNS _).mono ?_;rintro e W4 ⟨sb,sc,A,OO,rfl,hs4,hb4⟩;have Hs4:=zaa hs4;have Hb4:=zaa hb4;have hS:=hS.trans (zab hb4 hS.size);clear hs4 hb4)
    | fail)
  all_goals
   go_wp2_with fail
   go_meet
   exact⟨_,b3,sb,sc,A,rfl,zqT (uh Hr3) (uh Hb3) hl3' (uh Hs4) (uh Hb4)⟩
 case rest =>
  obtain⟨bb,nb,sb,sc,A,rfl,hN⟩:=hcut
  have HN:=zaa hN
  clear hN HNS HN0 hS
  have hbl:=(uh HN).bl
  have hgr:=zaJ (uh Hg) (zab hbl hM)
  have d2:=(hbl.cell (p:=⟨gb,2,none⟩) (by show gb<_;omega)).trans c2
  have d3:wc.cell? ⟨gb,3,none⟩=some (.slice qa G.prods.length qc):=by unfold World.cell?;rw[hgr.box];rfl
  have hmk:=fun w=>run_make_row' (P:=Tryz.prog) 109 27 (.slice none 0 0) 24 Tryz.underlying109 zg5 rfl .i64 .i64 G.rules.length (by omega) (by omega) w
  have hbl2:Below w.heap.size w (wc.alloc (.cells (madeCells #[.slice none 0 0] G.rules.length) 27)):=hbl.alloc hbl.size _
  have d3a:(wc.alloc (.cells (madeCells #[.slice none 0 0] G.rules.length) 27)).cell? ⟨gb,3,none⟩=some (.slice qa G.prods.length qc):=(((Below.refl wc.heap.size wc).alloc (Nat.le_refl _) _).cell (p:=⟨gb,3,none⟩) (by show gb<_;have:=hbl.size;omega)).trans d3
  have hNB:NB w.heap.size (wc.alloc (.cells (madeCells #[.slice none 0 0] G.rules.length) 27)) G.rules.length bb nb sb sc wc.heap.size gb A (zaO G) (fun _ _=>false) (fun _=>[]):=by
   have hal:Below wc.heap.size wc (wc.alloc (.cells (madeCells #[.slice none 0 0] G.rules.length) 27)):=(Below.refl _ _).alloc (Nat.le_refl _) _
   obtain⟨h1,h2,⟨OO,h3⟩,h4,h5,-⟩:=uh HN
   obtain⟨V,hV⟩:=zfS wc G.rules.length
   exact⟨(hal.block _ (Array.getElem?_eq_some_iff.1 h1).1).trans h1,h2.of_block (hal.block _ h2.lt),⟨OO,zbb h3 hal⟩,⟨V,(zbg hV).1,fun k hk=>by rw[(zbg hV).2 k hk];exact hbl.size⟩,h4,h5⟩
  have HNB:=zaa hNB;have Hbl2:=zaa hbl2
  have hwbl:=hbl.size
  clear hbl hgr hNB hbl2 HN
  generalize hwb:wc.heap.size=wb at *
  go_wp2
  go_loopw [36] (fun x V=>∃ (k:Nat) (C:Nat→Int→Bool) (W:Nat→List Nat),x=.int .i64 k∧k≤G.prods.length∧FbI G k 0 C W∧NB w.heap.size V G.rules.length bb nb sb sc wb gb A (zaO G) C W∧Below w.heap.size w V) (fun x _=>G.prods.length - (intOf x).toNat)
  case atStart=>exact⟨0,_,_,rfl,Nat.zero_le _,zpE G,uh HNB,uh Hbl2⟩
  case round =>
   clear HNB Hbl2
   obtain⟨k,C,W,rfl,hk,hFb,hNB,hb⟩:=hrel
   have hszw:=hb.size
   have hps:=hG.ps
   by_cases hlt:k<G.prods.length
   ·have hlt':(k:Int)<G.prods.length:=by omega
    have hgr:=zaJ (uh Hg) (zab hb hM)
    obtain⟨b,off,rfl,hbB,rr,rrc,x3,x4,x5,x6,n6,c6,hrr,-,q0,q1,q2,q3,q4,q5,q6⟩:=zbz hgr.gin.prods hlt
    have hpl:=hG.pl _ (zag hlt)
    have hpr:=hG.pr _ (zag hlt)
    have hpy:=hG.py _ (zag hlt)
    have Hk:=zaa (fun j C W=>zrn (G:=G) (k:=k) (j:=j) (C:=C) (W:=W))
    have Hr:=zaa (fun j C W=>zrm (G:=G) (k:=k) (j:=j) (C:=C) (W:=W))
    have Hsk:=zaa (fun j C W=>zrl (G:=G) (k:=k) (j:=j) (C:=C) (W:=W))
    unfold rhs lhs at Hk Hr
    unfold rhs at Hsk
    generalize G.prods.getD k pd0=p at *
    obtain⟨pl,prt,plv,pac⟩:=p
    simp only at q0 q1 q2 hpl hpr hpy hrr Hk Hr Hsk
    obtain⟨l,rfl⟩:∃ l:Nat,pl=(l:Int):=⟨pl.toNat,by omega⟩
    rw[Int.toNat_natCast] at Hk Hr
    have hl':l<G.rules.length:=by have:=hpl.2;unfold Gm.nr at this;omega
    have hli:(l:Int)<G.rules.length:=by omega
    obtain⟨W2,hW2⟩:∃ W2,W2=wr.alloc (.cells #[.int .i64 (l:Int),.slice rr prt.length rrc,.int .i64 plv,.int .i64 x3,.int .i64 x4,.string x5,.slice x6 n6 c6] 89):=⟨_,rfl⟩
    have hb2:Below wr.heap.size wr W2:=by rw[hW2];exact(Below.refl _ _).alloc (Nat.le_refl _) _
    have hpb:W2.heap[wr.heap.size]? = some (.cells #[.int .i64 (l:Int),.slice rr prt.length rrc,.int .i64 plv,.int .i64 x3,.int .i64 x4,.string x5,.slice x6 n6 c6] 89):=by rw[hW2];exact Go.Deep.blk_alloc_new _ _
    have HNB2:=zaa (zhK hNB hb2)
    have Hb2:=zaa (hb.trans (zab hb2 hszw))
    have Hpb:=zaa hpb
    have HFb:=zaa hFb
    have Hrr0:Hid (NRow M w rr prt):=zaa (by
     have hbk:Below M w wr:=zab hb hM
     rcases hrr with h | ⟨b9,o9,h1,h2,h3⟩
     ·exact .inl h
     ·exact .inr ⟨b9,o9,h1,h2,fun j hj=>(hbk.cell (p:=⟨b9,o9+j,none⟩) h2).symm.trans (h3 j hj)⟩)
    have Hpy:=zaa hpy
    clear hNB hb hb2 hpb hFb hrr hgr hpy
    go_wp2
    rw[← hW2]
    clear hW2
    generalize hpbe:wr.heap.size=pb at *
    go_loopw [43] (fun x V=>∃ (j:Nat) (C:Nat→Int→Bool) (W:Nat→List Nat),x=.int .i64 j∧j≤prt.length∧FbI G k j C W∧zaT G.nk (zaO G) (prt.take j)=true∧NB w.heap.size V G.rules.length bb nb sb sc wb gb A (zaO G) C W∧V.heap[pb]? = some (.cells #[.int .i64 (l:Int),.slice rr prt.length rrc,.int .i64 plv,.int .i64 x3,.int .i64 x4,.string x5,.slice x6 n6 c6] 89)∧Below w.heap.size w V) (fun x _=>prt.length - (intOf x).toNat)
    case atStart=>exact⟨0,C,W,rfl,Nat.zero_le _,uh HFb,by simp[zaT],uh HNB2,uh Hpb,uh Hb2⟩
    case round =>
     clear HNB2 Hb2 Hpb HFb
     obtain⟨j,C,W,rfl,hj,hFb,hem,hNB,hpb,hb⟩:=hrel
     by_cases hjl:j<prt.length
     ·have hjl':(j:Int)<prt.length:=by omega
      have hgr:=zaJ (uh Hg) (zab hb hM)
      have hc0:wr.cell? ⟨gb,0,none⟩=some (.slice ka G.kinds.length kc):=by unfold World.cell?;rw[hgr.box];rfl
      have hrr2:NRow M wr rr prt:=zau (zab hb hM) (uh Hrr0)
      obtain⟨b9,o9,rfl,hb9,hc9⟩:=za3 hrr2 hjl
      have hxs:=uh Hpy _ (za5 hjl)
      have hk3:=hG.k3
      unfold Gm.nk Gm.nr at hxs
      unfold Gm.nk at hk3
      have hszv:=hb.size
      have HR:=zaa (zeF gb (prt.getD j 0) G.kinds.length ka kc hk3 (by omega) wr hc0)
      have p0:wr.cell? ⟨pb,0,none⟩=some (.int .i64 (l:Int)):=by unfold World.cell?;rw[hpb];rfl
      have b2:wr.cell? ⟨bb,2,none⟩=some (.slice (some ⟨sb,0,none⟩) G.rules.length sc):=by unfold World.cell?;rw[hNB.bx];rfl
      have b1:wr.cell? ⟨bb,1,none⟩=some (.slice (some ⟨nb,0,none⟩) G.rules.length G.rules.length):=by unfold World.cell?;rw[hNB.bx];rfl
      obtain⟨OO,hSt⟩:=hNB.st
      have scl:=(zb1 hSt hl').1
      have HFb:=zaa hFb;have HNB:=zaa hNB;have Hpb:=zaa hpb;have Hb:=zaa hb;have HSt:=zaa hSt
      clear hFb hNB hpb hb hSt hgr hrr2
      by_cases hr:(G.kinds.length:Int)≤prt.getD j 0
      · rw [if_pos hr, decide_eq_true hr] at HR
        have hy0:∃ y:Nat,prt.getD j 0 - G.kinds.length=(y:Int):=⟨(prt.getD j 0 - G.kinds.length).toNat,by omega⟩
        obtain⟨y,hy⟩:=hy0
        have hyn:y<G.rules.length:=by omega
        have hFr:=uh Hr j C W (uh HFb) hlt hjl hem hr
        have ey:(prt.getD j 0 - G.nk).toNat=y:=by show (prt.getD j 0 - (G.kinds.length:Nat)).toNat=y;omega
        rw[ey] at hFr
        have Hsk2:=zaa (fun(hn:zaO G y=false)=>uh Hsk (j+1) C (upW W l y) hFr (by omega) (fun i h1 h2=>zg9 hjl (by omega) (.inr (by rw[ey];exact hn))))
        have Hem2:=zaa (fun(hn:zaO G y=true)=>zlF hjl hem hr (by rw[ey];exact hn))
        have HFr:=zaa hFr
        rw[hy] at HR
        obtain⟨V,hV,hVM⟩:=(uh HNB).tab
        obtain⟨ta,tc,hVl,tcl,-,-⟩:=zbC hV hl'
        have HVV:=zaa (And.intro hV hVM)
        have HS2:Hid (∀ W',Fr (zaA G.rules.length wb V) wr W'→(fun W:World=>W.cell? ⟨pb,0,none⟩=some (.int .i64 (l:Int))∧True) W'):=zaa (fun W' hf=>by
          have h1:=(hf.2.1 pb (Array.getElem?_eq_some_iff.1 (uh Hpb)).1 (fun ho=>by
            obtain⟨cs,t9,h3,h4⟩:=zdj hV ho
            rw[uh Hpb] at h3
            simp only[Option.some.injEq,Obj.cells.injEq] at h3
            obtain⟨-,h5,-⟩:=h3
            subst h5
            rcases h4 with h4 | h4 <;> cases h4)).trans (uh Hpb)
          exact⟨by unfold World.cell?;rw[h1];rfl,trivial⟩)
        have HFin:Hid (∀ (V':World) (O':Nat→Prop),zb8 O' V' wb G.rules.length (zjf (fun r=>zai (W r)) l (zai (W l) ++ [(y:Int)]))→Fr (zaA G.rules.length wb V) wr V'→(∀ k,O' k→zaA G.rules.length wb V k∨wr.heap.size≤k)→NB w.heap.size V' G.rules.length bb nb sb sc wb gb A (zaO G) C (upW W l y)∧V'.heap[pb]? = some (.cells #[.int .i64 (l:Int),.slice (some ⟨b9,o9,none⟩) prt.length rrc,.int .i64 plv,.int .i64 x3,.int .i64 x4,.string x5,.slice x6 n6 c6] 89)∧Below w.heap.size w V'):=zaa (fun V' O' h1 h2 h3=>by
          rw[zgR] at h1
          refine⟨nb_way (uh HNB) hszv (uh HVV) rfl h2 h1 h3,?_,(uh Hb).trans (zah h2 hszv (uh HVV).2)⟩
          exact(h2.2.1 pb (Array.getElem?_eq_some_iff.1 (uh Hpb)).1 (fun ho=>by
            obtain⟨cs,t9,h3,h4⟩:=zdj (uh HVV).1 ho
            rw[uh Hpb] at h3
            simp only[Option.some.injEq,Obj.cells.injEq] at h3
            obtain⟨-,h5,-⟩:=h3
            subst h5
            rcases h4 with h4 | h4 <;> cases h4)).trans (uh Hpb))
        have HT:=zaa hV
        have HVl:=zaa hVl
        have HRow:=zaa (show wr.ownsRow 0 3 1 (.slice ta (zai (W l)).length tc) (zai (W l)).length (zal (zai (W l))) by rw[← hVl];exact(hV.rows l hl').1)
        have hlen:(zai (W l)).length≤300000:=by rw[zak];have:=(uh HFb).l l;omega
        have hlr:=hl'
        have hF0:Fr (zaA G.rules.length wb V) wr wr:=zav _ _
        have HS:=HS2
        obtain⟨i3,hi3,hz30,hz31,hz32⟩:=zao zc0
        generalize hFl:zai (W l)=Fl at *
        generalize hxe:prt.getD j 0=x at *
        clear hV hVl HS2 ey scl hem
        go_wp2_with fail
        refine(uh HR).mono ?_
        rintro e w9 ⟨rfl,rfl⟩
        go_wp2_with fail
        go_cut [] from 66 to 77 (fun V'=>NB w.heap.size V' G.rules.length bb nb sb sc wb gb A (zaO G) C (upW W l y)∧V'.heap[pb]? = some (.cells #[.int .i64 (l:Int),.slice (some ⟨b9,o9,none⟩) prt.length rrc,.int .i64 plv,.int .i64 x3,.int .i64 x4,.string x5,.slice x6 n6 c6] 89)∧Below w.heap.size w V')
        case first =>
          refine wp_region_held_drew (S:=(fun W:World=>W.cell? ⟨pb,0,none⟩=some (.int .i64 (l:Int))∧True)) (by kernel_rfl) (uh HS _ hF0) (fun hH_=>?_)
          refine zac (i:=0) (dst:=some 66) (v:=?_) rfl rfl (by kernel_rfl) (by kernel_rfl) (by kernel_rfl) (fun _ _ _ h=>h) (Or.inl ⟨by rfl,?_⟩) hH_ ?_
          rotate_left
          · intro w hSw;obtain⟨k0,k1⟩:=hSw;go_simp;try (with_reducible rfl)
          simp only[Act.put,zsA,zsB,zsC]
          refine zac (i:=1) (dst:=some 67) (v:=?_) rfl rfl (by kernel_rfl) (by kernel_rfl) (by kernel_rfl) (fun _ _ _ h=>h) (Or.inl ⟨by rfl,?_⟩) hH_ ?_
          rotate_left
          · intro w hSw;obtain⟨k0,k1⟩:=hSw;go_simp;try (with_reducible rfl)
          simp only[Act.put,zsA,zsB,zsC]
          refine zac (i:=2) (dst:=some 68) (v:=?_) rfl rfl (by kernel_rfl) (by kernel_rfl) (by kernel_rfl) (fun _ _ _ h=>h) (Or.inl ⟨by rfl,?_⟩) hH_ ?_
          rotate_left
          · intro w hSw;obtain⟨k0,k1⟩:=hSw;go_simp;try (with_reducible rfl)
          simp only[Act.put,zsA,zsB,zsC]
          refine zac (i:=3) (dst:=some 69) (v:=?_) rfl rfl (by kernel_rfl) (by kernel_rfl) (by kernel_rfl) (fun _ _ _ h=>h) (Or.inl ⟨by rfl,?_⟩) hH_ ?_
          rotate_left
          · intro w hSw;obtain⟨k0,k1⟩:=hSw;go_simp;try (with_reducible rfl)
          simp only[Act.put,zsA,zsB,zsC]
          refine zac (i:=4) (dst:=some 70) (v:=?_) rfl rfl (by kernel_rfl) (by kernel_rfl) (by kernel_rfl) (fun _ _ _ h=>h) (Or.inl ⟨by rfl,?_⟩) hH_ ?_
          rotate_left
          · intro w hSw;obtain⟨k0,k1⟩:=hSw;go_simp;try (with_reducible rfl)
          simp only[Act.put,zsA,zsB,zsC]
          refine zac (i:=5) (dst:=some 71) (v:=?_) rfl rfl (by kernel_rfl) (by kernel_rfl) (by kernel_rfl) (fun _ _ _ h=>h) (Or.inl ⟨by rfl,?_⟩) hH_ ?_
          rotate_left
          · intro w hSw;obtain⟨k0,k1⟩:=hSw;go_simp;try (with_reducible rfl)
          simp only[Act.put,zsA,zsB,zsC]
          refine zac (i:=6) (dst:=some 72) (v:=?_) rfl rfl (by kernel_rfl) (by kernel_rfl) (by kernel_rfl) (fun _ _ _ h=>h) (Or.inl ⟨by rfl,?_⟩) hH_ ?_
          rotate_left
          · intro w hSw;obtain⟨k0,k1⟩:=hSw;go_simp;try (with_reducible rfl)
          simp only[Act.put,zsA,zsB,zsC]
          refine zac (i:=8) (dst:=some 74) (v:=?_) rfl rfl (by kernel_rfl) (by kernel_rfl) (by kernel_rfl) (fun _ _ _ h=>h) (Or.inl ⟨by rfl,?_⟩) hH_ ?_
          rotate_left
          · intro w hSw;obtain⟨k0,k1⟩:=hSw;go_simp;try (with_reducible rfl)
          simp only[Act.put,zsA,zsB,zsC]
          refine wpAnyH_ready (rs:=[7,9]) (by kernel_rfl) (by simp) ?_
          refine AllReadyH.cons rfl (fun K hK=>?_) (AllReadyH.cons rfl (fun K hK=>?_) AllReadyH.nil)
          · go_simp
            refine hK.out _ _ (uh HS _ hF0) (fun hH_=>?_)
            clear hK K
            refine wpAnyH_ready (rs:=[9]) (by kernel_rfl) (by simp) ?_
            refine AllReadyH.cons rfl (fun K hK=>?_) AllReadyH.nil
            go_simp
            have hj9:(wr.alloc (.cells #[.int .i64 (y:Int)] 3)).heap[wr.heap.size]? = some (.cells #[.int .i64 (y:Int)] 3):=Go.Deep.blk_alloc_new _ _
            have hbA:Below wr.heap.size wr (wr.alloc (.cells #[.int .i64 (y:Int)] 3)):=(Below.refl _ _).alloc (Nat.le_refl _) _
            have hF:=zb3 hF0 hbA
            refine hK.out _ _ (uh HS _ hF) (fun hH_=>?_)
            clear hK K
            refine wpAnyH_ready (rs:=[10]) (by kernel_rfl) (by simp) ?_
            refine AllReadyH.cons rfl (fun K hK=>?_) AllReadyH.nil
            have ow:=zaK (zas (uh HRow) hbA) (Nat.le_refl _)
            refine step_append_lies _ rfl (.tmp 73) (.tmp 75) 27 rfl 0 3 i3 (.int .i64 0) 1 8 Tryz.underlying27 hi3 hz30 hz31 hz32 rfl (by decide) (.slice ta Fl.length tc) Fl.length (zal Fl) (by simp[Act.eval]) ow ⟨wr.heap.size,0,none⟩ 1 1 [.int .i64 (y:Int)] (by simp[Act.eval]) rfl (fun j u hu=>zcK hj9 hu) (fun u hu=>by simp at hu;subst hu;rfl) (by decide) (by unfold maxLen;omega) (by omega) (Nat.zero_le _) _ rfl ?_
            intro g cap W6 ho6 hg6 hw6 hlt6
            have hg6:(wr.alloc (.cells #[.int .i64 (y:Int)] 3)).grownBy W6 (Value.ownBlock (.slice ta Fl.length tc)):=⟨hg6.os,hg6.tape,hg6.output,hg6.size,hg6.block⟩
            rw[← uh HVl] at hg6 hw6
            have ho6:W6.ownsRow 0 3 1 (.slice (some ⟨g,0,none⟩) (Fl ++ [(y:Int)]).length cap) (Fl ++ [(y:Int)]).length (zal (Fl ++ [(y:Int)])):=by rw[← zaN,List.length_append];exact ho6
            obtain⟨hT7,hF7⟩:=zcg (uh HT) hlr hbA rfl ho6 hg6 hw6 hlt6
            have hF6:Fr _ wr W6:=⟨Nat.le_trans hF.1 hg6.size,fun j hj ho=>(hg6.block j (Nat.lt_of_lt_of_le hj hF.1) (fun e=>ho (((uh HT).rows _ hlr).2 j e.symm))).trans (hF.2.1 j hj ho),hg6.os.trans hF.2.2.1,hg6.tape.trans hF.2.2.2.1,hg6.output.trans hF.2.2.2.2⟩
            go_simp
            refine hK.out _ _ (uh HS _ hF6) (fun hH_=>?_)
            clear hK K
            refine zac (i:=11) (dst:=some 77) (v:=?_) rfl rfl (by kernel_rfl) (by kernel_rfl) (by kernel_rfl) (fun _ _ _ h=>h) (Or.inl ⟨by rfl,?_⟩) hH_ ?_
            rotate_left
            · intro w hSw;obtain⟨k0,k1⟩:=hSw;go_simp;try (with_reducible rfl)
            simp only[Act.put,zsA,zsB,zsC]
            refine wpAnyH_ready (rs:=[12]) (by kernel_rfl) (by simp) ?_
            refine AllReadyH.cons rfl (fun K hK=>?_) AllReadyH.nil
            have hfz:W6.frozen? ⟨wb,l,none⟩=false:=(zba (uh HT) hlr hbA hg6)
            have hcz:=zby (uh HT) hlr hbA hg6
            rw[uh HVl] at hcz
            go_simp
            have hlen6:(Fl ++ [(y:Int)]).length=Fl.length+1:=by simp
            rw[hlen6] at hT7 hF7
            refine hK.out _ _ (uh HS _ hF7) (fun hH_=>?_)
            clear hK K
            refine wpAnyH_done (by kernel_rfl) ?_ _
            have HT7:=zaa hT7;have HF7:=zaa hF7
            have hs6:=hg6.size
            clear ow hT7 hF7 hF6 ho6 hg6 hw6 hlt6 hfz hcz hF hj9 hlen6 hH_
            go_wp2_with fail
            go_meet
            exact uh HFin _ _ (uh HT7) (uh HF7) (fun k hk=>hk.imp id (fun h=>h.1))
          · go_simp
            have hj9:(wr.alloc (.cells #[.int .i64 (y:Int)] 3)).heap[wr.heap.size]? = some (.cells #[.int .i64 (y:Int)] 3):=Go.Deep.blk_alloc_new _ _
            have hbA:Below wr.heap.size wr (wr.alloc (.cells #[.int .i64 (y:Int)] 3)):=(Below.refl _ _).alloc (Nat.le_refl _) _
            have hF:=zb3 hF0 hbA
            refine hK.out _ _ (uh HS _ hF) (fun hH_=>?_)
            clear hK K
            refine wpAnyH_ready (rs:=[7]) (by kernel_rfl) (by simp) ?_
            refine AllReadyH.cons rfl (fun K hK=>?_) AllReadyH.nil
            have tcl2:(wr.alloc (.cells #[.int .i64 (y:Int)] 3)).cell? ⟨wb,l,none⟩=some (.slice ta Fl.length tc):=(hbA.cell (p:=⟨wb,l,none⟩) ((uh HT).lt _ (uh HT).own)).trans tcl
            go_simp
            refine hK.out _ _ (uh HS _ hF) (fun hH_=>?_)
            clear hK K
            refine wpAnyH_ready (rs:=[10]) (by kernel_rfl) (by simp) ?_
            refine AllReadyH.cons rfl (fun K hK=>?_) AllReadyH.nil
            have ow:=zaK (zas (uh HRow) hbA) (Nat.le_refl _)
            refine step_append_lies _ rfl (.tmp 73) (.tmp 75) 27 rfl 0 3 i3 (.int .i64 0) 1 8 Tryz.underlying27 hi3 hz30 hz31 hz32 rfl (by decide) (.slice ta Fl.length tc) Fl.length (zal Fl) (by simp[Act.eval]) ow ⟨wr.heap.size,0,none⟩ 1 1 [.int .i64 (y:Int)] (by simp[Act.eval]) rfl (fun j u hu=>zcK hj9 hu) (fun u hu=>by simp at hu;subst hu;rfl) (by decide) (by unfold maxLen;omega) (by omega) (Nat.zero_le _) _ rfl ?_
            intro g cap W6 ho6 hg6 hw6 hlt6
            have hg6:(wr.alloc (.cells #[.int .i64 (y:Int)] 3)).grownBy W6 (Value.ownBlock (.slice ta Fl.length tc)):=⟨hg6.os,hg6.tape,hg6.output,hg6.size,hg6.block⟩
            rw[← uh HVl] at hg6 hw6
            have ho6:W6.ownsRow 0 3 1 (.slice (some ⟨g,0,none⟩) (Fl ++ [(y:Int)]).length cap) (Fl ++ [(y:Int)]).length (zal (Fl ++ [(y:Int)])):=by rw[← zaN,List.length_append];exact ho6
            obtain⟨hT7,hF7⟩:=zcg (uh HT) hlr hbA rfl ho6 hg6 hw6 hlt6
            have hF6:Fr _ wr W6:=⟨Nat.le_trans hF.1 hg6.size,fun j hj ho=>(hg6.block j (Nat.lt_of_lt_of_le hj hF.1) (fun e=>ho (((uh HT).rows _ hlr).2 j e.symm))).trans (hF.2.1 j hj ho),hg6.os.trans hF.2.2.1,hg6.tape.trans hF.2.2.2.1,hg6.output.trans hF.2.2.2.2⟩
            go_simp
            refine hK.out _ _ (uh HS _ hF6) (fun hH_=>?_)
            clear hK K
            refine zac (i:=11) (dst:=some 77) (v:=?_) rfl rfl (by kernel_rfl) (by kernel_rfl) (by kernel_rfl) (fun _ _ _ h=>h) (Or.inl ⟨by rfl,?_⟩) hH_ ?_
            rotate_left
            · intro w hSw;obtain⟨k0,k1⟩:=hSw;go_simp;try (with_reducible rfl)
            simp only[Act.put,zsA,zsB,zsC]
            refine wpAnyH_ready (rs:=[12]) (by kernel_rfl) (by simp) ?_
            refine AllReadyH.cons rfl (fun K hK=>?_) AllReadyH.nil
            have hfz:W6.frozen? ⟨wb,l,none⟩=false:=(zba (uh HT) hlr hbA hg6)
            have hcz:=zby (uh HT) hlr hbA hg6
            rw[uh HVl] at hcz
            go_simp
            have hlen6:(Fl ++ [(y:Int)]).length=Fl.length+1:=by simp
            rw[hlen6] at hT7 hF7
            refine hK.out _ _ (uh HS _ hF7) (fun hH_=>?_)
            clear hK K
            refine wpAnyH_done (by kernel_rfl) ?_ _
            have HT7:=zaa hT7;have HF7:=zaa hF7
            have hs6:=hg6.size
            clear ow hT7 hF7 hF6 ho6 hg6 hw6 hlt6 hfz hcz hF hj9 hlen6 hH_
            go_wp2_with fail
            go_meet
            exact uh HFin _ _ (uh HT7) (uh HF7) (fun k hk=>hk.imp id (fun h=>h.1))
        case rest =>
          obtain⟨hNB5,hpb5,hb5⟩:=hcut
          have b15:wc.cell? ⟨bb,1,none⟩=some (.slice (some ⟨nb,0,none⟩) G.rules.length G.rules.length):=by unfold World.cell?;rw[hNB5.bx];rfl
          have ny:=hNB5.nu.cell hyn
          have hyn':(y:Int)<G.rules.length:=by omega
          have HNB5:=zaa hNB5;have Hpb5:=zaa hpb5;have Hb5:=zaa hb5
          have hnot:=zaG
          clear hNB5 hpb5 hb5 HFin HT HVl HRow HS HR b1 b2 p0 tcl hF0 HNB Hb HSt Hpb
          cases hnu:zaO G y with
          | true =>
            rw[hnu] at ny
            have Hem3:=zaa (uh Hem2 hnu)
            clear Hem2 Hsk2
            go_wp2
            go_roundw
            case rel=>exact⟨j+1,C,upW W l y,by go_num,by omega,uh HFr,uh Hem3,uh HNB5,uh Hpb5,uh Hb5⟩
            case measure=>simp[intOf];omega
          | false =>
            rw[hnu] at ny
            have Hsk3:=zaa (uh Hsk2 hnu)
            clear Hem2 Hsk2
            go_wp2
            go_roundw
            case rel=>exact⟨k+1,C,upW W l y,by go_num,by omega,uh Hsk3,uh HNB5,uh Hb5⟩
            case measure=>simp[intOf];omega
      · rw[if_neg hr,decide_eq_false hr] at HR
        have hx':prt.getD j 0<(G.nk:Int):=by show _<((G.kinds.length:Nat):Int);omega
        have hFk:=uh Hk j C W (uh HFb) hlt hjl hem hx'
        have Hn:=zaa (uh Hsk (j+1) _ _ hFk (by omega) (fun i h1 h2=>zg9 hjl (by omega) (.inl hx')))
        have HAdd:Hid (∀ V,Below wr.heap.size wr V→V.heap[wr.heap.size]? = some (.cells #[.int .i64 (prt.getD j 0)] 3 (0,0))→Calls Tryz.prog 79 #[.pointer (some ⟨A l,0,none⟩),.slice (some ⟨wr.heap.size,0,none⟩) 1 1] V fun e V'=>(∃ c,e=.returned (.tuple #[.int .i64 c,.int .i64 0]))∧NB w.heap.size V' G.rules.length bb nb sb sc wb gb A (zaO G) (upC C l (zi8 (C l) (prt.getD j 0))) W∧Below w.heap.size w V'):=zaa (fun V hV hc=>by
          have hNV:=zhK (uh HNB) hV
          obtain⟨OV,hsV⟩:=hNV.st
          have hsz:=hV.size
          refine(zj8 hsV (by omega) hl' (prt.getD j 0) (by omega) ⟨wr.heap.size,0,none⟩ 1 rfl (Array.getElem?_eq_some_iff.1 hc).1 (by unfold World.cell?;rw[hc];rfl) (zaL hc (by decide) (by decide))).mono ?_
          rintro e V' ⟨he,hs',hf'⟩
          exact⟨he,nb_set hNV hf' hs',((uh Hb).trans (zab hV hszv)).trans (zah hf' (by omega) (fun k hk=>hk.1))⟩)
        generalize hxe:prt.getD j 0=x at *
        have scl2:wr.cell? ⟨sb,l,none⟩=some (.pointer (some ⟨A l,0,none⟩)):=scl
        clear scl hFk hem
        go_wp2_with fail
        refine(uh HR).mono ?_
        rintro e w9 ⟨rfl,rfl⟩
        have hnot:=zaG
        have hal:Below wr.heap.size wr (wr.alloc (.cells #[.int .i64 x] 3)):=(Below.refl _ _).alloc (Nat.le_refl _) _
        have hnw:(wr.alloc (.cells #[.int .i64 x] 3)).heap[wr.heap.size]? = some (.cells #[.int .i64 x] 3 (0,0)):=Go.Deep.blk_alloc_new _ _
        have scl3:=(hal.cell (p:=⟨sb,l,none⟩) (zb0 (uh HSt)).1).trans scl2
        have p03:=(hal.cell (p:=⟨pb,0,none⟩) (Array.getElem?_eq_some_iff.1 (uh Hpb)).1).trans p0
        have b23:=(hal.cell (p:=⟨bb,2,none⟩) (Array.getElem?_eq_some_iff.1 (uh HNB).bx).1).trans b2
        have Hal:=zaa hal;have Hnw:=zaa hnw
        clear hal hnw
        go_wp2_with fail
        go_region_with (go_at_call 79;refine(uh HAdd _ (by first | exact uh Hal | exact(uh Hal).drew) (by first | exact uh Hnw | exact uh Hnw)).mono ?_;rintro e V5 ⟨⟨c5,rfl⟩,hNB5,hb5⟩;have HNB5:=zaa hNB5;have Hb5:=zaa hb5;clear hNB5 hb5)
        all_goals
          go_wp2
          go_roundw
          case rel=>exact⟨k+1,_,W,by go_num,by omega,uh Hn,zhK (uh HNB5) (by first | exact Below.refl _ _ | exact(Below.refl _ _).drew),by first | exact uh Hb5 | exact(uh Hb5).drew⟩
          case measure=>simp[intOf];omega
     ·obtain rfl:j=prt.length:=by omega
      have Hn:=zaa (uh Hsk _ _ _ hFb (by omega) (fun i h1 h2=>by omega))
      have HNB:=zaa hNB;have Hb:=zaa hb
      clear hFb hNB hb
      go_wp2
      go_roundw
      case rel=>exact⟨k+1,C,W,by go_num,by omega,uh Hn,uh HNB,uh Hb⟩
      case measure=>simp[intOf];omega
   ·obtain rfl:k=G.prods.length:=by omega
    obtain⟨OO,hSt⟩:=hNB.st
    obtain⟨hway,hwn,wcs,hwcs⟩:=zho hNB.tab
    obtain⟨scs,hscs,-⟩:=hSt.row
    have hWb:∀ r,r<G.rules.length→∀ y,y ∈ W r→y<G.rules.length:=fun r _ y hy=>by
     obtain⟨q,i,-,hq,-,hi,-,hx,rfl⟩:=(hFb.w r y).1 hy
     have h1:=(hG.py _ (zag hq) _ (za5 hi)).2
     have h2:(rhs G q).getD i 0<((G.nk+G.nr:Nat):Int):=h1
     unfold Gm.nr at h2
     omega
    have hWl:∀ r,(W r).length≤1048576:=fun r=>by have:=hFb.l r;omega
    have HGa:=zaa (zg6 w.heap.size W C G.rules.length wb G.rules.length sb sc A OO hr2 hWb hWl wr hszw hway (fun r a c b o hr hc=>by
     obtain⟨cs,h1⟩:=hwn r a c b o hr hc
     exact⟨zaL h1 (by decide) (by decide),fun e=>by subst e;exact zaF h1 hscs (by decide) rfl⟩) ⟨zaL hwcs (by decide) (by decide),fun e=>by subst e;exact zaF hwcs hscs (by decide) rfl⟩ hSt)
    have b2:wr.cell? ⟨bb,2,none⟩=some (.slice (some ⟨sb,0,none⟩) G.rules.length sc):=by unfold World.cell?;rw[hNB.bx];rfl
    have Hfe:=zaa (fun r m=>fb_end hG hFb r m)
    have HNB:=zaa hNB;have Hb:=zaa hb;have Hscs:=zaa hscs
    clear hNB hb hSt hway hwn hwcs hscs hFb hWb hWl
    go_wp2_with fail
    refine(uh HGa).mono ?_
    rintro e V5 ⟨⟨v5,rfl⟩,⟨OO5,rep,C5,hs5,he5⟩,hf5⟩
    have hNB:=uh HNB
    obtain⟨ns,hns⟩:=zax hNB.nu
    have hk5:∀ {q t:Nat} {cs:Array Value},wr.heap[q]? = some (.cells cs t (0,0))→t≠75→t≠126→t≠129→V5.heap[q]? = some (.cells cs t (0,0)):=fun {q t cs} hq h1 h2 h3=>(hf5.2.1 q (Array.getElem?_eq_some_iff.1 hq).1 (fun ho=>by
     rcases ho with e | ho
     ·subst e;exact zaF hq (uh Hscs) h1 rfl
     ·exact zaL hq h2 h3 ho.2)).trans hq
    have hbf:Below w.heap.size wr V5:=zah hf5 hszw (fun q hq=>hq.elim (fun e=>by rw[e];exact hs5.tbB) (fun h=>h.1))
    have Hfin:Hid (BgAt w.heap.size V5 G bb nb sb sc gb A):=zaa ⟨hk5 hNB.bx (by decide) (by decide) (by decide),hNB.nu.of_block ((hk5 hns (by decide) (by decide) (by decide)).trans hns.symm),⟨OO5,rep,C5,hs5,fun x hx m=>(he5 x hx m).trans (uh Hfe x m)⟩,hNB.b1,hNB.b2⟩
    have Hbf:=zaa ((uh Hb).trans hbf)
    clear hs5 he5 hf5 hk5 hbf hNB hns
    go_wp2
    go_ret
    exact⟨bb,nb,sb,sc,A,rfl,uh Hfin,uh Hbf⟩
end Go.Proofs.YtagohbpbgjelaaaGreatDoor

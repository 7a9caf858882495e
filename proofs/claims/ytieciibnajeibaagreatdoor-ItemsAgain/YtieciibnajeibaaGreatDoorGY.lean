import Derived.Test.YtieciibnajeibaaGreatDoorGX
set_option maxHeartbeats 8000000
set_option maxRecDepth 100000
namespace Go.Proofs.YtieciibnajeibaaGreatDoor
open Go.RowKit
def zaG(n tb:Nat)(V:Nat->Value)(k:Nat):Prop:=k=tb\/∃ r,r<n/\(V r).ownBlock=some k
theorem za3{O:Nat->Prop}{w:World}{tb n:Nat}{V:Nat->Value}{F:Nat->List Int}(h:TabV O w tb n V F):TabV (zaG n tb V) w tb n V F/\∀ k,zaG n tb V k->O k:=by
 have hO:∀ k,zaG n tb V k->O k:=λk hk=>by
  rcases hk with rfl | ⟨r,hr,hk⟩
  ·exact h.own
  ·exact(h.rows r hr).2 k hk
 exact⟨⟨.inl rfl,λk hk=>h.lt k (hO k hk),h.row,λr hr=>⟨(h.rows r hr).1,λk hk=>.inr ⟨r,hr,hk⟩⟩,h.apart⟩,hO⟩
theorem zdi{O:Nat->Prop}{w:World}{tb n:Nat}{V:Nat->Value}{F:Nat->List Int}(h:TabV O w tb n V F){k:Nat}(hk:zaG n tb V k):∃ cs t,w.heap[k]? = some (.cells cs t (0,0))/\(t=50\/t=3):=by
 rcases hk with rfl | ⟨r,hr,hk⟩
 ·obtain⟨cs,h1⟩:=zaB h.row;exact⟨cs,50,h1,.inl rfl⟩
 ·obtain⟨cs,h1⟩:=zcC (h.rows r hr).1 hk;exact⟨cs,3,h1,.inr rfl⟩
def zim(M:Nat)(w:World)(tb n:Nat)(W:Nat->List Nat):Prop:=∃ V,TabV (zaG n tb V) w tb n V (λr=>zag (W r))/\∀ k,zaG n tb V k->M<=k
theorem zgG{M:Nat}{O:Nat->Prop}{w w':World}{tb n:Nat}{W:Nat->List Nat}(h:zim M w tb n W)(hf:Fr O w w')(hn:∀ k cs t,O k->w.heap[k]? = some (.cells cs t (0,0))->t≠50/\t≠3):zim M w' tb n W:=by
 obtain⟨V,h1,h2⟩:=h;refine⟨V,ze2 h1 hf (λk hk ho=>?_),h2⟩;obtain⟨cs,t,h3,h4⟩:=zdi h1 hk;have:=hn k cs t ho h3;rcases h4 with h4 | h4
 ·exact this.1 h4
 ·exact this.2 h4
theorem zd9{M:Nat}{w w':World}{tb n:Nat}{W:Nat->List Nat}(h:zim M w tb n W)(hb:Below w.heap.size w w'):zim M w' tb n W:=zgG (O:=λ_=>False) h (zae hb) (λ_ _ _ h=>h.elim)
theorem zoV{M B:Nat}{w w':World}{tb n:Nat}{W:Nat->List Nat}(h:zim M w tb n W)(hf:Fr (zxs B w) w w'):zim M w' tb n W :=
 zgG h hf (λk cs t ho hk=>by
  refine⟨λe=>?_,λe=>?_⟩
  ·subst e;exact zaq hk (by decide) (by decide) ho.2
  ·subst e;exact zaq hk (by decide) (by decide) ho.2)
theorem zix{M:Nat}{w:World}{tb n:Nat}{W:Nat->List Nat}(h:zim M w tb n W):zjs w.heap.size w tb n W/\(∀ r a c b o,r<n->w.cell? ⟨tb,r,none⟩=some (.slice (some ⟨b,o,none⟩) a c)->∃ cs,w.heap[b]? = some (.cells cs 3 (0,0)))/\∃ cs,w.heap[tb]? = some (.cells cs 50 (0,0)):=by
 obtain⟨V,h1,h2⟩:=h;refine⟨⟨h1.lt _ h1.own,λr hr=>?_⟩,λr a c b o hr hc=>?_,zaB h1.row⟩
 ·obtain⟨a,c,-,h3,-,h4⟩:=za6 h1 hr;rw[zam] at h3;exact⟨a,c,h3,h4⟩
 ·have h3:=h1.row.cell hr;rw[hc] at h3;have hv:(V r).ownBlock=some b:=by
   have:V r=.slice (some ⟨b,o,none⟩) a c:=by simpa using h3.symm
   rw[this];rfl
  exact zcC (h1.rows r hr).1 hv
structure NB (M:Nat) (w:World) (n bb nb sb sc wb gb:Nat) (A:Nat->Nat) (nu:Nat->Bool) (C:Nat->Int->Bool) (W:Nat->List Nat):Prop where
 bx:w.heap[bb]? = some (.cells #[.pointer (some ⟨gb,0,none⟩),.slice (some ⟨nb,0,none⟩) n n,.slice (some ⟨sb,0,none⟩) n sc] 168 (0,0))
 nu:w.rowIs nb 4 n (λr=>.bool (nu r))
 st:∃ OO,SetsV M w sb n A OO id C
 tab:zim M w wb n W
 b1:M<=bb
 b2:M<=nb
section
variable {M:Nat} {w w':World} {n bb nb sb sc wb gb:Nat} {A:Nat->Nat} {nu:Nat->Bool} {C C':Nat->Int->Bool} {W W':Nat->List Nat}
theorem ziP(h:NB M w n bb nb sb sc wb gb A nu C W)(hb:Below w.heap.size w w'):NB M w' n bb nb sb sc wb gb A nu C W:=by
 obtain⟨OO,h1⟩:=h.st;exact⟨(hb.block _ (zsO.1 h.bx).1).trans h.bx,h.nu.of_block (hb.block _ h.nu.lt),⟨OO,zaZ h1 hb⟩,zd9 h.tab hb,h.b1,h.b2⟩
theorem nb_set(h:NB M w n bb nb sb sc wb gb A nu C W)(hf:Fr (zxs M w) w w')(hs:∃ OO,SetsV M w' sb n A OO id C'):NB M w' n bb nb sb sc wb gb A nu C' W:=by
 obtain⟨ns,hns⟩:=zaB h.nu;exact⟨(hf.2.1 _ (zsO.1 h.bx).1 (λho=>zaq h.bx (by decide) (by decide) ho.2)).trans h.bx,h.nu.of_block (hf.2.1 _ h.nu.lt (λho=>zaq hns (by decide) (by decide) ho.2)),hs,zoV h.tab hf,h.b1,h.b2⟩
theorem nb_way{O O':Nat->Prop}{V:Nat->Value}(h:NB M w n bb nb sb sc wb gb A nu C W)(hM:M<=w.heap.size)(hV:TabV (zaG n wb V) w wb n V (λr=>zag (W r))/\∀ k,zaG n wb V k->M<=k)(hO:O=zaG n wb V)(hf:Fr O w w')(ht:zbB O' w' wb n (λr=>zag (W' r)))(hO':∀ k,O' k->O k\/w.heap.size<=k):NB M w' n bb nb sb sc wb gb A nu C W':=by
 subst hO;obtain⟨OO,h1⟩:=h.st;obtain⟨ns,hns⟩:=zaB h.nu;obtain⟨V',hV'⟩:=ht;have hty:∀ k,zaG n wb V k->∃ cs t,w.heap[k]? = some (.cells cs t (0,0))/\(t=50\/t=3):=λk hk=>zdi hV.1 hk;have hno:∀ {k t:Nat} {cs:Array Value},w.heap[k]? = some (.cells cs t (0,0))->t≠50->t≠3->¬ zaG n wb V k:=fun {k t cs} hk n1 n2 ho=>by
  obtain⟨ds,u,h3,h4⟩:=hty k ho;rw[hk] at h3;simp only[Option.some.injEq,Obj.cells.injEq] at h3;obtain⟨-,rfl,-⟩:=h3;exact h4.elim n1 n2
 obtain⟨scs,hscs,-⟩:=h1.row;refine⟨(hf.2.1 _ (zsO.1 h.bx).1 (hno h.bx (by decide) (by decide))).trans h.bx,h.nu.of_block (hf.2.1 _ h.nu.lt (hno hns (by decide) (by decide))),⟨OO,zk6 h1 hf (λk _ ho=>⟨λe=>hno hscs (by decide) (by decide) (e▸ho),λhs=>?_⟩)⟩,⟨V',(za3 hV').1,λk hk=>?_⟩,h.b1,h.b2⟩
 ·obtain⟨cs,t,h3,h4⟩:=hs.2;rcases h4 with rfl | rfl
  ·exact hno h3 (by decide) (by decide) ho
  ·exact hno h3 (by decide) (by decide) ho
 ·rcases hO' k ((za3 hV').2 k hk) with h3 | h3
  ·exact hV.2 k h3
  ·omega
end
theorem zhK(W:Nat->List Nat)(r y:Nat):zkO (λr=>zag (W r)) r (zag (W r) ++ [(y:Int)])=λs=>zag (upW W r y s):=by
 funext s;unfold zkO upW;by_cases e:s=r
 ·subst e;rw[if_pos rfl,if_pos rfl];simp[zag]
 ·rw[if_neg e,if_neg e]
structure NB0 (B:Nat) (w w':World) (n bb nb sb sc gb:Nat) (A:Nat->Nat) (nu:Nat->Bool) (C:Nat->Int->Bool):Prop where
 bx:w'.heap[bb]? = some (.cells #[.pointer (some ⟨gb,0,none⟩),.slice (some ⟨nb,0,none⟩) n n,.slice (some ⟨sb,0,none⟩) n sc] 168 (0,0))
 nu:w'.rowIs nb 4 n (λr=>.bool (nu r))
 st:∃ OO,SetsV B w' sb n A OO id C
 b1:B<=bb
 b2:B<=nb
 bl:Below B w w'
theorem zvQ{w W3 W4:World}{n nb sb sc gb:Nat}{A:Nat->Nat}{OO:Nat->Nat->Prop}{nu:Nat->Bool}(h3:W3.rowIs nb 4 n (λr=>.bool (nu r)))(hb3:Below w.heap.size w W3)(hnb:w.heap.size<=nb)(hs:SetsV W3.heap.size W4 sb n A OO id (λ_ _=>false))(hb4:Below W3.heap.size W3 W4) :
 NB0 w.heap.size w (W4.alloc (.cells #[.pointer (some ⟨gb,0,none⟩),.slice (some ⟨nb,0,none⟩) n n,.slice (some ⟨sb,0,none⟩) n sc] 168)) n W4.heap.size nb sb sc gb A nu (λ_ _=>false):=by
 have s3:=hb3.size;have s4:=hb4.size;have hal:Below W4.heap.size W4 (W4.alloc (.cells #[.pointer (some ⟨gb,0,none⟩),.slice (some ⟨nb,0,none⟩) n n,.slice (some ⟨sb,0,none⟩) n sc] 168)):=(zsY _ _).alloc (zsG _) _;have h5:=zaZ hs hal;refine⟨zsH _ _,(h3.of_block (hb4.block _ h3.lt)).of_block (hal.block _ (by have:=h3.lt;omega)),⟨OO,⟨h5.row,by have:=h5.tbB;omega,h5.rp,h5.set,λr hr k hk=>by have:=h5.bl r hr k hk;omega,h5.ap⟩⟩,by omega,hnb,hb3.trans ((zab hb4 s3).trans (zab hal (by omega)))⟩
structure BgAt (M:Nat) (w:World) (G:Gm) (bb nb sb sc gb:Nat) (A:Nat->Nat):Prop where
 bx:w.heap[bb]? = some (.cells #[.pointer (some ⟨gb,0,none⟩),.slice (some ⟨nb,0,none⟩) G.rules.length G.rules.length,.slice (some ⟨sb,0,none⟩) G.rules.length sc] 168 (0,0))
 nu:w.rowIs nb 4 G.rules.length (λr=>.bool (zat G r))
 st:∃ OO rep C,SetsV M w sb G.rules.length A OO rep C/\∀ x,x<G.rules.length->∀ m,C (rep x) m=true↔0<=m/\Fst G x m.toNat
 b1:M<=bb
 b2:M<=nb
def BgPost(G:Gm)(gb:Nat)(w:World)(e:Ending)(w':World):Prop:=∃ bb nb sb sc A,e=.returned (.pointer (some ⟨bb,0,none⟩))/\BgAt w.heap.size w' G bb nb sb sc gb A/\Below w.heap.size w w'
theorem zfL(G:Gm)(hG:GOk G)(ka pa ra qa:Option Addr)(kc pc rc qc gb ob ub:Nat)(M:Nat)(w:World)(hM:M<=w.heap.size)(hg:GrAt M w G ka kc pa pc ra rc qa qc gb ob ub) :
 Calls Tryz.prog 105 #[.pointer (some ⟨gb,0,none⟩)] w λe w'=>BgPost G gb w e w':=by
 have HN0:Hid (∀ W,Below w.heap.size w W->Calls Tryz.prog 147 #[.pointer (some ⟨gb,0,none⟩)] W λe w'=>∃ b:Nat,e=.returned (.slice (some ⟨b,0,none⟩) G.rules.length G.rules.length)/\w'.rowIs b 4 G.rules.length (λr=>.bool (zat G r))/\W.heap.size<=b/\Below W.heap.size W w'):=zaa (λW hW=>zfH G hG ka pa ra qa kc pc rc qc gb ob ub M W (by have:=hW.size;omega) (za1 hg (zab hW hM)));have hbx:=hg.box;have hr2:=hG.r2;have hr1:=hG.r1;unfold Gm.nr at hr2 hr1;have hgl:=hg.lt;have c2:w.cell? ⟨gb,2,none⟩=some (.slice ra G.rules.length rc):=by unfold World.cell?;rw[hbx];rfl
 have HS:Hid (∀ W,Below w.heap.size w W->W.cell? ⟨gb,2,none⟩=some (.slice ra G.rules.length rc)/\True):=zaa (λW hW=>⟨(hW.cell (p:=⟨gb,2,none⟩) (by show gb<_;omega)).trans c2,trivial⟩);have hS:Below w.heap.size w w:=zsY _ _;have HNS:=zaa (zgT G.rules.length ⟨hr1,hr2⟩);have Hg:=zaa hg;clear hg hbx;go_enter Tryz.func105,Tryz.ntmps105;go_wp2_with fail
 go_cut [3] (λs W=>∃ bb nb sb sc A,s=.pointer (some ⟨bb,0,none⟩)/\NB0 w.heap.size w W G.rules.length bb nb sb sc gb A (zat G) (λ_ _=>false))
 case first =>
  go_region_held3 (λW:World=>W.cell? ⟨gb,2,none⟩=some (.slice ra G.rules.length rc)/\True)
   (first | exact uh HS _ hS | exact uh HS _ hS.drew | exact uh HS _ (hS.alloc hS.size _) | exact uh HS _ (hS.drew.alloc hS.size _) | fail)
   (first
    | (go_at_call 147;refine(uh HN0 _ (by first | exact hS | exact hS.drew | exact Below.drew hS)).mono ?_;rintro e W3 ⟨b3,rfl,hr3,hl3,hb3⟩;have Hb3:=zaa (show Below w.heap.size w W3 from⟨hb3.os,hb3.tape,hb3.output,hb3.size,hb3.block⟩);have Hr3:=zaa hr3;have hl3':w.heap.size<=b3:=hl3;have hS:=uh Hb3;clear hb3 hr3)
    | (go_at_call 148;refine(uh HNS _).mono ?_;rintro e W4 ⟨sb,sc,A,OO,rfl,hs4,hb4⟩;have Hs4:=zaa hs4;have Hb4:=zaa hb4;have hS:=hS.trans (zab hb4 hS.size);clear hs4 hb4)
    | fail)
  all_goals
   go_wp2_with fail
   go_meet
   exact⟨_,b3,sb,sc,A,rfl,zvQ (uh Hr3) (uh Hb3) hl3' (uh Hs4) (uh Hb4)⟩
 case rest =>
  obtain⟨bb,nb,sb,sc,A,rfl,hN⟩:=hcut;have HN:=zaa hN;clear hN HNS HN0 hS;have hbl:=(uh HN).bl;have hgr:=za1 (uh Hg) (zab hbl hM);have d2:=(hbl.cell (p:=⟨gb,2,none⟩) (by show gb<_;omega)).trans c2;have d3:wc.cell? ⟨gb,3,none⟩=some (.slice qa G.prods.length qc):=by unfold World.cell?;rw[hgr.box];rfl
  have hmk:=λw=>run_make_row' (P:=Tryz.prog) 221 50 (.slice none 0 0) 24 Tryz.underlying221 zf1 rfl .i64 .i64 G.rules.length (by omega) (by omega) w;have hbl2:Below w.heap.size w (wc.alloc (.cells (madeCells #[.slice none 0 0] G.rules.length) 50)):=hbl.alloc hbl.size _;have d3a:(wc.alloc (.cells (madeCells #[.slice none 0 0] G.rules.length) 50)).cell? ⟨gb,3,none⟩=some (.slice qa G.prods.length qc):=(((zsY wc.heap.size wc).alloc (zsG _) _).cell (p:=⟨gb,3,none⟩) (by show gb<_;have:=hbl.size;omega)).trans d3;have hNB:NB w.heap.size (wc.alloc (.cells (madeCells #[.slice none 0 0] G.rules.length) 50)) G.rules.length bb nb sb sc wc.heap.size gb A (zat G) (λ_ _=>false) (λ_=>[]):=by
   have hal:Below wc.heap.size wc (wc.alloc (.cells (madeCells #[.slice none 0 0] G.rules.length) 50)):=(zsY _ _).alloc (zsG _) _;obtain⟨h1,h2,⟨OO,h3⟩,h4,h5,-⟩:=uh HN;obtain⟨V,hV⟩:=zeF wc G.rules.length;exact⟨(hal.block _ (zsO.1 h1).1).trans h1,h2.of_block (hal.block _ h2.lt),⟨OO,zaZ h3 hal⟩,⟨V,(za3 hV).1,λk hk=>by rw[(za3 hV).2 k hk];exact hbl.size⟩,h4,h5⟩
  have HNB:=zaa hNB;have Hbl2:=zaa hbl2;have hwbl:=hbl.size;clear hbl hgr hNB hbl2 HN;generalize hwb:wc.heap.size=wb at *;go_wp2
  go_loopw [36] (λx V=>∃ (k:Nat) (C:Nat->Int->Bool) (W:Nat->List Nat),x=.int .i64 k/\k<=G.prods.length/\FbI G k 0 C W/\NB w.heap.size V G.rules.length bb nb sb sc wb gb A (zat G) C W/\Below w.heap.size w V) (λx _=>G.prods.length - (intOf x).toNat)
  case atStart=>exact⟨0,_,_,rfl,zsK _,ztJ G,uh HNB,uh Hbl2⟩
  case round =>
   clear HNB Hbl2;obtain⟨k,C,W,rfl,hk,hFb,hNB,hb⟩:=hrel;have hszw:=hb.size;have hps:=hG.ps;by_cases hlt:k<G.prods.length
   ·have hlt':(k:Int)<G.prods.length:=by omega
    have hgr:=za1 (uh Hg) (zab hb hM);obtain⟨b,off,rfl,hbB,rr,rrc,x3,x4,x5,x6,n6,c6,hrr,-,q0,q1,q2,q3,q4,q5,q6⟩:=zdm hgr.gin.prods hlt;have hpl:=hG.pl _ (zan hlt);have hpr:=hG.pr _ (zan hlt);have hpy:=hG.py _ (zan hlt);have Hk:=zaa (λj C W=>zwC (G:=G) (k:=k) (j:=j) (C:=C) (W:=W));have Hr:=zaa (λj C W=>zwB (G:=G) (k:=k) (j:=j) (C:=C) (W:=W));have Hsk:=zaa (λj C W=>zwA (G:=G) (k:=k) (j:=j) (C:=C) (W:=W));unfold rhs lhs at Hk Hr;unfold rhs at Hsk;generalize G.prods.getD k pd0=p at *;obtain⟨pl,prt,plv,pac⟩:=p;simp only at q0 q1 q2 hpl hpr hpy hrr Hk Hr Hsk;obtain⟨l,rfl⟩:∃ l:Nat,pl=(l:Int):=⟨pl.toNat,by omega⟩;rw[zsS] at Hk Hr;have hl':l<G.rules.length:=by have:=hpl.2;unfold Gm.nr at this;omega
    have hli:(l:Int)<G.rules.length:=by omega
    obtain⟨W2,hW2⟩:∃ W2,W2=wr.alloc (.cells #[.int .i64 (l:Int),.slice rr prt.length rrc,.int .i64 plv,.int .i64 x3,.int .i64 x4,.string x5,.slice x6 n6 c6] 116):=⟨_,rfl⟩;have hb2:Below wr.heap.size wr W2:=by rw[hW2];exact(zsY _ _).alloc (zsG _) _
    have hpb:W2.heap[wr.heap.size]? = some (.cells #[.int .i64 (l:Int),.slice rr prt.length rrc,.int .i64 plv,.int .i64 x3,.int .i64 x4,.string x5,.slice x6 n6 c6] 116):=by rw[hW2];exact zsH _ _
    have HNB2:=zaa (ziP hNB hb2);have Hb2:=zaa (hb.trans (zab hb2 hszw));have Hpb:=zaa hpb;have HFb:=zaa hFb
    have Hrr0:Hid (NRow M w rr prt):=zaa (by
     have hbk:Below M w wr:=zab hb hM;rcases hrr with h | ⟨b9,o9,h1,h2,h3⟩
     ·exact .inl h
     ·exact .inr ⟨b9,o9,h1,h2,λj hj=>(hbk.cell (p:=⟨b9,o9+j,none⟩) h2).symm.trans (h3 j hj)⟩)
    have Hpy:=zaa hpy;clear hNB hb hb2 hpb hFb hrr hgr hpy;go_wp2;rw[<- hW2];clear hW2;generalize hpbe:wr.heap.size=pb at *
    go_loopw [43] (λx V=>∃ (j:Nat) (C:Nat->Int->Bool) (W:Nat->List Nat),x=.int .i64 j/\j<=prt.length/\FbI G k j C W/\zar G.nk (zat G) (prt.take j)=true/\NB w.heap.size V G.rules.length bb nb sb sc wb gb A (zat G) C W/\V.heap[pb]? = some (.cells #[.int .i64 (l:Int),.slice rr prt.length rrc,.int .i64 plv,.int .i64 x3,.int .i64 x4,.string x5,.slice x6 n6 c6] 116)/\Below w.heap.size w V) (λx _=>prt.length - (intOf x).toNat)
    case atStart=>exact⟨0,C,W,rfl,zsK _,uh HFb,by simp[zar],uh HNB2,uh Hpb,uh Hb2⟩
    case round =>
     clear HNB2 Hb2 Hpb HFb;obtain⟨j,C,W,rfl,hj,hFb,hem,hNB,hpb,hb⟩:=hrel;by_cases hjl:j<prt.length
     ·have hjl':(j:Int)<prt.length:=by omega
      have hgr:=za1 (uh Hg) (zab hb hM);have hc0:wr.cell? ⟨gb,0,none⟩=some (.slice ka G.kinds.length kc):=by unfold World.cell?;rw[hgr.box];rfl
      have hrr2:NRow M wr rr prt:=zaS (zab hb hM) (uh Hrr0);obtain⟨b9,o9,rfl,hb9,hc9⟩:=zbf hrr2 hjl;have hxs:=uh Hpy _ (zbg hjl);have hk3:=hG.k3;unfold Gm.nk Gm.nr at hxs;unfold Gm.nk at hk3;have hszv:=hb.size;have HR:=zaa (zgl gb (prt.getD j 0) G.kinds.length ka kc hk3 (by omega) wr hc0);have p0:wr.cell? ⟨pb,0,none⟩=some (.int .i64 (l:Int)):=by unfold World.cell?;rw[hpb];rfl
      have b2:wr.cell? ⟨bb,2,none⟩=some (.slice (some ⟨sb,0,none⟩) G.rules.length sc):=by unfold World.cell?;rw[hNB.bx];rfl
      have b1:wr.cell? ⟨bb,1,none⟩=some (.slice (some ⟨nb,0,none⟩) G.rules.length G.rules.length):=by unfold World.cell?;rw[hNB.bx];rfl
      obtain⟨OO,hSt⟩:=hNB.st;have scl:=(zbP hSt hl').1;have HFb:=zaa hFb;have HNB:=zaa hNB;have Hpb:=zaa hpb;have Hb:=zaa hb;have HSt:=zaa hSt;clear hFb hNB hpb hb hSt hgr hrr2;by_cases hr:(G.kinds.length:Int)<=prt.getD j 0
      · rw [if_pos hr, decide_eq_true hr] at HR;have hy0:∃ y:Nat,prt.getD j 0 - G.kinds.length=(y:Int):=⟨(prt.getD j 0 - G.kinds.length).toNat,by omega⟩;obtain⟨y,hy⟩:=hy0;have hyn:y<G.rules.length:=by omega
        have hFr:=uh Hr j C W (uh HFb) hlt hjl hem hr;have ey:(prt.getD j 0 - G.nk).toNat=y:=by show (prt.getD j 0 - (G.kinds.length:Nat)).toNat=y;omega
        rw[ey] at hFr;have Hsk2:=zaa (λ(hn:zat G y=false)=>uh Hsk (j+1) C (upW W l y) hFr (by omega) (λi h1 h2=>zic hjl (by omega) (.inr (by rw[ey];exact hn))));have Hem2:=zaa (λ(hn:zat G y=true)=>zoc hjl hem hr (by rw[ey];exact hn));have HFr:=zaa hFr;rw[hy] at HR;obtain⟨V,hV,hVM⟩:=(uh HNB).tab;obtain⟨ta,tc,hVl,tcl,-,-⟩:=za6 hV hl';have HVV:=zaa (And.intro hV hVM)
        have HS2:Hid (∀ W',Fr (zaG G.rules.length wb V) wr W'->(λW:World=>W.cell? ⟨pb,0,none⟩=some (.int .i64 (l:Int))/\True) W'):=zaa (λW' hf=>by
          have h1:=(hf.2.1 pb (zsO.1 (uh Hpb)).1 (λho=>by
            obtain⟨cs,t9,h3,h4⟩:=zdi hV ho;rw[uh Hpb] at h3;simp only[Option.some.injEq,Obj.cells.injEq] at h3;obtain⟨-,h5,-⟩:=h3;subst h5
            rcases h4 with h4 | h4 <;> cases h4)).trans (uh Hpb)
          exact⟨by unfold World.cell?;rw[h1];rfl,trivial⟩)
        have HFin:Hid (∀ (V':World) (O':Nat->Prop),zbB O' V' wb G.rules.length (zkO (λr=>zag (W r)) l (zag (W l) ++ [(y:Int)]))->Fr (zaG G.rules.length wb V) wr V'->(∀ k,O' k->zaG G.rules.length wb V k\/wr.heap.size<=k)->NB w.heap.size V' G.rules.length bb nb sb sc wb gb A (zat G) C (upW W l y)/\V'.heap[pb]? = some (.cells #[.int .i64 (l:Int),.slice (some ⟨b9,o9,none⟩) prt.length rrc,.int .i64 plv,.int .i64 x3,.int .i64 x4,.string x5,.slice x6 n6 c6] 116)/\Below w.heap.size w V'):=zaa (λV' O' h1 h2 h3=>by
          rw[zhK] at h1;refine⟨nb_way (uh HNB) hszv (uh HVV) rfl h2 h1 h3,?_,(uh Hb).trans (zau h2 hszv (uh HVV).2)⟩
          exact(h2.2.1 pb (zsO.1 (uh Hpb)).1 (λho=>by
            obtain⟨cs,t9,h3,h4⟩:=zdi (uh HVV).1 ho;rw[uh Hpb] at h3;simp only[Option.some.injEq,Obj.cells.injEq] at h3;obtain⟨-,h5,-⟩:=h3;subst h5
            rcases h4 with h4 | h4 <;> cases h4)).trans (uh Hpb))
        have HT:=zaa hV;have HVl:=zaa hVl;have HRow:=zaa (show wr.ownsRow 0 3 1 (.slice ta (zag (W l)).length tc) (zag (W l)).length (zao (zag (W l))) by rw[<- hVl];exact(hV.rows l hl').1);have hlen:(zag (W l)).length<=300000:=by rw[zam];have:=(uh HFb).l l;omega
        have hlr:=hl';have hF0:Fr (zaG G.rules.length wb V) wr wr:=zax _ _;have HS:=HS2;obtain⟨i3,hi3,hz30,hz31,hz32⟩:=zah zdB;generalize hFl:zag (W l)=Fl at *;generalize hxe:prt.getD j 0=x at *;clear hV hVl HS2 ey scl hem;go_wp2_with fail;refine(uh HR).mono ?_;rintro e w9 ⟨rfl,rfl⟩;go_wp2_with fail
        go_cut [] from 66 to 77 (λV'=>NB w.heap.size V' G.rules.length bb nb sb sc wb gb A (zat G) C (upW W l y)/\V'.heap[pb]? = some (.cells #[.int .i64 (l:Int),.slice (some ⟨b9,o9,none⟩) prt.length rrc,.int .i64 plv,.int .i64 x3,.int .i64 x4,.string x5,.slice x6 n6 c6] 116)/\Below w.heap.size w V')
        case first =>
          refine wp_region_held_drew (S:=(λW:World=>W.cell? ⟨pb,0,none⟩=some (.int .i64 (l:Int))/\True)) (by kernel_rfl) (uh HS _ hF0) (λhH=>?_);refine zad 0 66 rfl rfl hH (λw ⟨k0,k1⟩=>by go_simp;try rfl) ?_;simp only[Act.put,zsA,zsB,zsC];refine zad 1 67 rfl rfl hH (λw ⟨k0,k1⟩=>by go_simp;try rfl) ?_;simp only[Act.put,zsA,zsB,zsC];refine zad 2 68 rfl rfl hH (λw ⟨k0,k1⟩=>by go_simp;try rfl) ?_;simp only[Act.put,zsA,zsB,zsC];refine zad 3 69 rfl rfl hH (λw ⟨k0,k1⟩=>by go_simp;try rfl) ?_;simp only[Act.put,zsA,zsB,zsC];refine zad 4 70 rfl rfl hH (λw ⟨k0,k1⟩=>by go_simp;try rfl) ?_;simp only[Act.put,zsA,zsB,zsC];refine zad 5 71 rfl rfl hH (λw ⟨k0,k1⟩=>by go_simp;try rfl) ?_;simp only[Act.put,zsA,zsB,zsC];refine zad 6 72 rfl rfl hH (λw ⟨k0,k1⟩=>by go_simp;try rfl) ?_;simp only[Act.put,zsA,zsB,zsC];refine zad 8 74 rfl rfl hH (λw ⟨k0,k1⟩=>by go_simp;try rfl) ?_;simp only[Act.put,zsA,zsB,zsC];refine zcV 7 9 rfl rfl (λK hK=>?_) λK hK=>?_;go_simp;refine hK.out _ _ (uh HS _ hF0) (λhH=>?_);clear hK K;refine zai 9 rfl λK hK=>?_;go_simp;have hj9:(wr.alloc (.cells #[.int .i64 (y:Int)] 3)).heap[wr.heap.size]? = some (.cells #[.int .i64 (y:Int)] 3):=zsH _ _;have hbA:Below wr.heap.size wr (wr.alloc (.cells #[.int .i64 (y:Int)] 3)):=(zsY _ _).alloc (zsG _) _;have hF:=zdc hF0 hbA;rotate_left;go_simp;have hj9:(wr.alloc (.cells #[.int .i64 (y:Int)] 3)).heap[wr.heap.size]? = some (.cells #[.int .i64 (y:Int)] 3):=zsH _ _;have hbA:Below wr.heap.size wr (wr.alloc (.cells #[.int .i64 (y:Int)] 3)):=(zsY _ _).alloc (zsG _) _;have hF:=zdc hF0 hbA;refine hK.out _ _ (uh HS _ hF) (λhH=>?_);clear hK K;refine zai 7 rfl λK hK=>?_;have tcl2:(wr.alloc (.cells #[.int .i64 (y:Int)] 3)).cell? ⟨wb,l,none⟩=some (.slice ta Fl.length tc):=(hbA.cell (p:=⟨wb,l,none⟩) ((uh HT).lt _ (uh HT).own)).trans tcl;go_simp;rotate_left
          all_goals
            refine hK.out _ _ (uh HS _ hF) (λhH=>?_);clear hK K;refine zai 10 rfl λK hK=>?_;have ow:=zaR (zaW (uh HRow) hbA) (zsG _);refine step_append_lies _ rfl (.tmp 73) (.tmp 75) 50 rfl 0 3 i3 (.int .i64 0) 1 8 Tryz.underlying50 hi3 hz30 hz31 hz32 rfl (by decide) (.slice ta Fl.length tc) Fl.length (zao Fl) (by simp[Act.eval]) ow ⟨wr.heap.size,0,none⟩ 1 1 [.int .i64 (y:Int)] (by simp[Act.eval]) rfl (λj u hu=>zeM hj9 hu) (λu hu=>by simp at hu;subst hu;rfl) (by decide) (by unfold maxLen;omega) (by omega) (zsK _) _ rfl ?_;intro g cap W6 ho6 hg6 hw6 hlt6;have hg6:(wr.alloc (.cells #[.int .i64 (y:Int)] 3)).grownBy W6 (Value.ownBlock (.slice ta Fl.length tc)):=⟨hg6.os,hg6.tape,hg6.output,hg6.size,hg6.block⟩;rw[<- uh HVl] at hg6 hw6;have ho6:W6.ownsRow 0 3 1 (.slice (some ⟨g,0,none⟩) (Fl ++ [(y:Int)]).length cap) (Fl ++ [(y:Int)]).length (zao (Fl ++ [(y:Int)])):=by rw[<- zaY,zsI];exact ho6
            obtain⟨hT7,hF7⟩:=zd8 (uh HT) hlr hbA rfl ho6 hg6 hw6 hlt6;have hF6:Fr _ wr W6:=⟨zsy hF.1 hg6.size,λj hj ho=>(hg6.block j (zsJ hj hF.1) (λe=>ho (((uh HT).rows _ hlr).2 j e.symm))).trans (hF.2.1 j hj ho),hg6.os.trans hF.2.2.1,hg6.tape.trans hF.2.2.2.1,hg6.output.trans hF.2.2.2.2⟩;go_simp;refine hK.out _ _ (uh HS _ hF6) (λhH=>?_);clear hK K;refine zad 11 77 rfl rfl hH (λw ⟨k0,k1⟩=>by go_simp;try rfl) ?_;simp only[Act.put,zsA,zsB,zsC];refine zai 12 rfl λK hK=>?_;have hfz:W6.frozen? ⟨wb,l,none⟩=false:=(zbI (uh HT) hlr hbA hg6);have hcz:=zcs (uh HT) hlr hbA hg6;rw[uh HVl] at hcz;go_simp;have hlen6:(Fl ++ [(y:Int)]).length=Fl.length+1:=by simp
            rw[hlen6] at hT7 hF7;refine hK.out _ _ (uh HS _ hF7) (λhH=>?_);clear hK K;refine wpAnyH_done (by kernel_rfl) ?_ _;have HT7:=zaa hT7;have HF7:=zaa hF7;have hs6:=hg6.size;clear ow hT7 hF7 hF6 ho6 hg6 hw6 hlt6 hfz hcz hF hj9 hlen6 hH;go_wp2_with fail
            go_meet
            exact uh HFin _ _ (uh HT7) (uh HF7) (λk hk=>hk.imp id (λh=>h.1))
        case rest =>
          obtain⟨hNB5,hpb5,hb5⟩:=hcut;have b15:wc.cell? ⟨bb,1,none⟩=some (.slice (some ⟨nb,0,none⟩) G.rules.length G.rules.length):=by unfold World.cell?;rw[hNB5.bx];rfl
          have ny:=hNB5.nu.cell hyn;have hyn':(y:Int)<G.rules.length:=by omega
          have HNB5:=zaa hNB5;have Hpb5:=zaa hpb5;have Hb5:=zaa hb5;have hnot:=zbl;clear hNB5 hpb5 hb5 HFin HT HVl HRow HS HR b1 b2 p0 tcl hF0 HNB Hb HSt Hpb
          cases hnu:zat G y with
          | true =>
            rw[hnu] at ny;have Hem3:=zaa (uh Hem2 hnu);clear Hem2 Hsk2;go_wp2;go_roundw
            case rel=>exact⟨j+1,C,upW W l y,by go_num,by omega,uh HFr,uh Hem3,uh HNB5,uh Hpb5,uh Hb5⟩
            case measure=>simp[intOf];omega
          | false =>
            rw[hnu] at ny;have Hsk3:=zaa (uh Hsk2 hnu);clear Hem2 Hsk2;go_wp2;go_roundw
            case rel=>exact⟨k+1,C,upW W l y,by go_num,by omega,uh Hsk3,uh HNB5,uh Hb5⟩
            case measure=>simp[intOf];omega
      · rw[if_neg hr,decide_eq_false hr] at HR;have hx':prt.getD j 0<(G.nk:Int):=by show _<((G.kinds.length:Nat):Int);omega
        have hFk:=uh Hk j C W (uh HFb) hlt hjl hem hx';have Hn:=zaa (uh Hsk (j+1) _ _ hFk (by omega) (λi h1 h2=>zic hjl (by omega) (.inl hx')))
        have HAdd:Hid (∀ V,Below wr.heap.size wr V->V.heap[wr.heap.size]? = some (.cells #[.int .i64 (prt.getD j 0)] 3 (0,0))->Calls Tryz.prog 150 #[.pointer (some ⟨A l,0,none⟩),.slice (some ⟨wr.heap.size,0,none⟩) 1 1] V λe V'=>(∃ c,e=.returned (.tuple #[.int .i64 c,.int .i64 0]))/\NB w.heap.size V' G.rules.length bb nb sb sc wb gb A (zat G) (upC C l (zkS (C l) (prt.getD j 0))) W/\Below w.heap.size w V'):=zaa (λV hV hc=>by
          have hNV:=ziP (uh HNB) hV;obtain⟨OV,hsV⟩:=hNV.st;have hsz:=hV.size;refine(zme hsV (by omega) hl' (prt.getD j 0) (by omega) ⟨wr.heap.size,0,none⟩ 1 rfl (zsO.1 hc).1 (by unfold World.cell?;rw[hc];rfl) (zaq hc (by decide) (by decide))).mono ?_;rintro e V' ⟨he,hs',hf'⟩
          exact⟨he,nb_set hNV hf' hs',((uh Hb).trans (zab hV hszv)).trans (zau hf' (by omega) (λk hk=>hk.1))⟩)
        generalize hxe:prt.getD j 0=x at *;have scl2:wr.cell? ⟨sb,l,none⟩=some (.pointer (some ⟨A l,0,none⟩)):=scl;clear scl hFk hem;go_wp2_with fail;refine(uh HR).mono ?_;rintro e w9 ⟨rfl,rfl⟩;have hnot:=zbl;have hal:Below wr.heap.size wr (wr.alloc (.cells #[.int .i64 x] 3)):=(zsY _ _).alloc (zsG _) _;have hnw:(wr.alloc (.cells #[.int .i64 x] 3)).heap[wr.heap.size]? = some (.cells #[.int .i64 x] 3 (0,0)):=zsH _ _;have scl3:=(hal.cell (p:=⟨sb,l,none⟩) (zbO (uh HSt)).1).trans scl2;have p03:=(hal.cell (p:=⟨pb,0,none⟩) (zsO.1 (uh Hpb)).1).trans p0;have b23:=(hal.cell (p:=⟨bb,2,none⟩) (zsO.1 (uh HNB).bx).1).trans b2;have Hal:=zaa hal;have Hnw:=zaa hnw;clear hal hnw;go_wp2_with fail
        go_region_with (go_at_call 150;refine(uh HAdd _ (by first | exact uh Hal | exact(uh Hal).drew) (by first | exact uh Hnw | exact uh Hnw)).mono ?_;rintro e V5 ⟨⟨c5,rfl⟩,hNB5,hb5⟩;have HNB5:=zaa hNB5;have Hb5:=zaa hb5;clear hNB5 hb5)
        all_goals
          go_wp2;go_roundw
          case rel=>exact⟨k+1,_,W,by go_num,by omega,uh Hn,ziP (uh HNB5) (by first | exact zsY _ _ | exact(zsY _ _).drew),by first | exact uh Hb5 | exact(uh Hb5).drew⟩
          case measure=>simp[intOf];omega
     ·obtain rfl:j=prt.length:=by omega
      have Hn:=zaa (uh Hsk _ _ _ hFb (by omega) (λi h1 h2=>by omega));have HNB:=zaa hNB;have Hb:=zaa hb;clear hFb hNB hb;go_wp2;go_roundw
      case rel=>exact⟨k+1,C,W,by go_num,by omega,uh Hn,uh HNB,uh Hb⟩
      case measure=>simp[intOf];omega
   ·obtain rfl:k=G.prods.length:=by omega
    obtain⟨OO,hSt⟩:=hNB.st;obtain⟨hway,hwn,wcs,hwcs⟩:=zix hNB.tab;obtain⟨scs,hscs,-⟩:=hSt.row;have hWb:∀ r,r<G.rules.length->∀ y,y ∈ W r->y<G.rules.length:=λr _ y hy=>by
     obtain⟨q,i,-,hq,-,hi,-,hx,rfl⟩:=(hFb.w r y).1 hy;have h1:=(hG.py _ (zan hq) _ (zbg hi)).2;have h2:(rhs G q).getD i 0<((G.nk+G.nr:Nat):Int):=h1;unfold Gm.nr at h2;omega
    have hWl:∀ r,(W r).length<=1048576:=λr=>by have:=hFb.l r;omega
    have HGa:=zaa (zh7 w.heap.size W C G.rules.length wb G.rules.length sb sc A OO hr2 hWb hWl wr hszw hway (λr a c b o hr hc=>by
     obtain⟨cs,h1⟩:=hwn r a c b o hr hc
     exact⟨zaq h1 (by decide) (by decide),λe=>by subst e;exact zav h1 hscs (by decide) rfl⟩) ⟨zaq hwcs (by decide) (by decide),λe=>by subst e;exact zav hwcs hscs (by decide) rfl⟩ hSt)
    have b2:wr.cell? ⟨bb,2,none⟩=some (.slice (some ⟨sb,0,none⟩) G.rules.length sc):=by unfold World.cell?;rw[hNB.bx];rfl
    have Hfe:=zaa (λr m=>fb_end hG hFb r m);have HNB:=zaa hNB;have Hb:=zaa hb;have Hscs:=zaa hscs;clear hNB hb hSt hway hwn hwcs hscs hFb hWb hWl;go_wp2_with fail;refine(uh HGa).mono ?_;rintro e V5 ⟨⟨v5,rfl⟩,⟨OO5,rep,C5,hs5,he5⟩,hf5⟩;have hNB:=uh HNB;obtain⟨ns,hns⟩:=zaB hNB.nu
    have hk5:∀ {q t:Nat} {cs:Array Value},wr.heap[q]? = some (.cells cs t (0,0))->t≠110->t≠233->t≠244->V5.heap[q]? = some (.cells cs t (0,0)):=fun {q t cs} hq h1 h2 h3=>(hf5.2.1 q (zsO.1 hq).1 (λho=>by
     rcases ho with e | ho
     ·subst e;exact zav hq (uh Hscs) h1 rfl
     ·exact zaq hq h2 h3 ho.2)).trans hq
    have hbf:Below w.heap.size wr V5:=zau hf5 hszw (λq hq=>hq.elim (λe=>by rw[e];exact hs5.tbB) (λh=>h.1));have Hfin:Hid (BgAt w.heap.size V5 G bb nb sb sc gb A):=zaa ⟨hk5 hNB.bx (by decide) (by decide) (by decide),hNB.nu.of_block ((hk5 hns (by decide) (by decide) (by decide)).trans hns.symm),⟨OO5,rep,C5,hs5,λx hx m=>(he5 x hx m).trans (uh Hfe x m)⟩,hNB.b1,hNB.b2⟩;have Hbf:=zaa ((uh Hb).trans hbf);clear hs5 he5 hf5 hk5 hbf hNB hns;go_wp2;go_ret;exact⟨bb,nb,sb,sc,A,rfl,uh Hfin,uh Hbf⟩
def FlS(G:Gm)(q i r:Nat)(m:Int):Prop:=q<G.prods.length/\atF G (lhs G q)=true/\i<(rhs G q).length/\(G.nk:Int)<=(rhs G q).getD i 0/\((rhs G q).getD i 0 - G.nk).toNat=r/\0<=m/\zet G.nk (zat G) (zdy G) ((rhs G q).drop (i+1)) m.toNat=true
def FlW(G:Gm)(q i r y:Nat):Prop:=q<G.prods.length/\atF G (lhs G q)=true/\i<(rhs G q).length/\(G.nk:Int)<=(rhs G q).getD i 0/\((rhs G q).getD i 0 - G.nk).toNat=r/\zar G.nk (zat G) ((rhs G q).drop (i+1))=true/\lhs G q=y
structure FlI (G:Gm) (P:Nat->Nat->Prop) (n:Nat) (C:Nat->Int->Bool) (W:Nat->List Nat):Prop where
 c:∀ r m,C r m=true↔(r=G.start.toNat/\m=0)\/∃ q i,P q i/\FlS G q i r m
 w:∀ r y,y ∈ W r↔∃ q i,P q i/\FlW G q i r y
 l:∀ r,(W r).length<=n
def Dn(k j q i:Nat):Prop:=q<k\/q=k/\j<=i
theorem zhd{G:Gm}{P P':Nat->Nat->Prop}{n n':Nat}{C:Nat->Int->Bool}{W:Nat->List Nat}(h:FlI G P n C W)(hn:n<=n')(hp:∀ q i,i<(rhs G q).length->atF G (lhs G q)=true->(P q i↔P' q i)):FlI G P' n' C W:=by
 refine⟨λr m=>?_,λr y=>?_,λr=>zsy (h.l r) hn⟩
 ·rw[h.c r m];refine or_congr Iff.rfl ⟨?_,?_⟩
  ·rintro⟨q,i,h1,h2⟩;exact⟨q,i,(hp q i h2.2.2.1 h2.2.1).1 h1,h2⟩
  ·rintro⟨q,i,h1,h2⟩;exact⟨q,i,(hp q i h2.2.2.1 h2.2.1).2 h1,h2⟩
 ·rw[h.w r y];constructor
  ·rintro⟨q,i,h1,h2⟩;exact⟨q,i,(hp q i h2.2.2.1 h2.2.1).1 h1,h2⟩
  ·rintro⟨q,i,h1,h2⟩;exact⟨q,i,(hp q i h2.2.2.1 h2.2.1).2 h1,h2⟩
theorem ztG(G:Gm):FlI G (λq _=>q<0) 0 (upC (λ_ _=>false) G.start.toNat (zkS (λ_=>false) 0)) (λ_=>[]):=by
 refine⟨λr m=>?_,λr y=>⟨λh=>(by cases h),fun⟨q,i,h,_⟩=>(by omega)⟩,λr=>by simp⟩;constructor
 ·intro h;by_cases e:r=G.start.toNat
  ·subst e;rw[zbc] at h;unfold zkS at h;by_cases e2:m=0
   ·exact .inl ⟨rfl,e2⟩
   ·rw[if_neg e2] at h;cases h
  ·rw[zcm e] at h;cases h
 ·rintro(⟨rfl,rfl⟩ | ⟨q,i,h,_⟩)
  ·rw[zbc];rfl
  ·omega
theorem zwx{G:Gm}{k n:Nat}{C:Nat->Int->Bool}{W:Nat->List Nat}(h:FlI G (λq _=>q<k) n C W):FlI G (Dn k (rhs G k).length) n C W :=
 zhd h (zsG _) (λq i hi _=>⟨.inl,λh1=>h1.elim id (fun⟨e,h2⟩=>by subst e;omega)⟩)
theorem zwu{G:Gm}{k n n':Nat}{C:Nat->Int->Bool}{W:Nat->List Nat}(h:FlI G (Dn k 0) n C W)(hn:n<=n'):FlI G (λq _=>q<k+1) n' C W :=
 zhd h hn (λq i _ _=>⟨λh1=>by unfold Dn at h1;omega,λh1=>by unfold Dn;omega⟩)
theorem zww{G:Gm}{k n n':Nat}{C:Nat->Int->Bool}{W:Nat->List Nat}(h:FlI G (λq _=>q<k) n C W)(hn:n<=n')(hr:atF G (lhs G k)=false):FlI G (λq _=>q<k+1) n' C W :=
 zhd h hn (λq i _ ha=>⟨λh1=>by omega,λh1=>by
  by_cases e:q=k
  ·subst e;rw[hr] at ha;cases ha
  ·omega⟩)
theorem dn_pred{k j q i:Nat}:Dn k j q i↔Dn k (j+1) q i\/q=k/\i=j:=by unfold Dn;omega
def BeI(G:Gm)(row:List Int)(j:Nat)(D:Int->Bool)(em:Bool):Prop:=(∀ m,D m=true↔0<=m/\zet G.nk (zat G) (zdy G) (row.drop j) m.toNat=true)/\em=zar G.nk (zat G) (row.drop j)
theorem be_end(G:Gm)(row:List Int):BeI G row row.length (λ_=>false) true:=by
 refine⟨λm=>?_,?_⟩
 ·rw[List.drop_length];simp[zet]
 ·rw[List.drop_length];rfl
theorem zfX{row:List Int}{j:Nat}(hj:j<row.length):row.drop j=row.getD j 0::row.drop (j+1):=by
 rw[List.drop_eq_getElem_cons hj,zsE,zsF hj];rfl
theorem zuc{G:Gm}{x:Int}(h0:0<=x)(hx:x<(G.nk:Int))(k:Nat):zet G.nk (zat G) (zdy G) [x] k=true↔x=k:=by
 rw[begB_iff];constructor
 ·rintro⟨i,hi,-,h⟩;have:i=0:=by simp at hi;omega
  subst this;rcases h with ⟨-,h⟩ | ⟨h,-⟩
  ·have h:k=x.toNat:=h;omega
  ·have h:(G.nk:Int)<=x:=h;omega
 ·intro e;refine⟨0,by simp,by simp[zar],.inl ⟨hx,?_⟩⟩;show k=x.toNat;omega
theorem zm9{G:Gm}{x:Int}(hx:(G.nk:Int)<=x)(k:Nat):zet G.nk (zat G) (zdy G) [x] k=true↔Fst G (x - G.nk).toNat k:=by
 rw[begB_iff,<- zfS];constructor
 ·rintro⟨i,hi,-,h⟩;have:i=0:=by simp at hi;omega
  subst this;rcases h with ⟨h,-⟩ | ⟨-,h⟩
  ·have h:x<(G.nk:Int):=h;omega
  ·exact h
 ·intro h;exact⟨0,by simp,by simp[zar],.inr ⟨hx,h⟩⟩
theorem zxb{G:Gm}{row:List Int}{j:Nat}(hj:j<row.length)(h0:0<=row.getD j 0)(hx:row.getD j 0<(G.nk:Int)):BeI G row j (zkS (λ_=>false) (row.getD j 0)) false:=by
 have he:zar G.nk (zat G) [row.getD j 0]=false:=by
  unfold zar;simp only[List.all_cons,List.all_nil,Bool.and_true,Bool.and_eq_false_iff,decide_eq_false_iff_not];exact .inl (by omega)
 refine⟨λm=>?_,?_⟩
 ·rw[zfX hj,zhn,he];simp only[Bool.false_and,Bool.or_false];rw[zuc h0 hx];unfold zkS;by_cases e:m=row.getD j 0
  ·rw[if_pos e];exact⟨λ_=>⟨by omega,by omega⟩,λ_=>rfl⟩
  ·rw[if_neg e];exact⟨λh=>(by cases h),fun⟨h1,h2⟩=>by omega⟩
 ·rw[zfX hj,zeQ,he];rfl
theorem zrj{G:Gm}{row:List Int}{j:Nat}{D F:Int->Bool}{em:Bool}(h:BeI G row (j+1) D em)(hj:j<row.length)(hx:(G.nk:Int)<=row.getD j 0)(hn:zat G (row.getD j 0 - G.nk).toNat=true)(hF:∀ m,F m=true↔0<=m/\Fst G (row.getD j 0 - G.nk).toNat m.toNat):BeI G row j (orF D F) em:=by
 have he:zar G.nk (zat G) [row.getD j 0]=true:=by
  unfold zar;simp only[List.all_cons,List.all_nil,Bool.and_true,Bool.and_eq_true,decide_eq_true_eq];exact⟨hx,hn⟩
 refine⟨λm=>?_,?_⟩
 ·rw[zfX hj,zhn,he];simp only[Bool.true_and,Bool.or_eq_true];rw[zm9 hx];unfold orF;rw[Bool.or_eq_true,h.1 m,hF m];constructor
  ·rintro(⟨a,b⟩ | ⟨a,b⟩)
   ·exact⟨a,.inr b⟩
   ·exact⟨a,.inl b⟩
  ·rintro⟨a,b | b⟩
   ·exact .inr ⟨a,b⟩
   ·exact .inl ⟨a,b⟩
 ·rw[zfX hj,zeQ,he,h.2];rfl
theorem zrk{G:Gm}{row:List Int}{j:Nat}{F:Int->Bool}(hj:j<row.length)(hx:(G.nk:Int)<=row.getD j 0)(hn:zat G (row.getD j 0 - G.nk).toNat=false)(hF:∀ m,F m=true↔0<=m/\Fst G (row.getD j 0 - G.nk).toNat m.toNat):BeI G row j (orF (λ_=>false) F) false:=by
 have he:zar G.nk (zat G) [row.getD j 0]=false:=by
  unfold zar;simp only[List.all_cons,List.all_nil,Bool.and_true,Bool.and_eq_false_iff,decide_eq_false_iff_not];exact .inr hn
 refine⟨λm=>?_,?_⟩
 ·rw[zfX hj,zhn,he];simp only[Bool.false_and,Bool.or_false];rw[zm9 hx];unfold orF;rw[Bool.false_or];exact hF m
 ·rw[zfX hj,zeQ,he];rfl
theorem zwy{G:Gm}{k j n:Nat}{C:Nat->Int->Bool}{W:Nat->List Nat}(h:FlI G (Dn k (j+1)) n C W)(hx:(rhs G k).getD j 0<(G.nk:Int)):FlI G (Dn k j) n C W:=by
 refine⟨λr m=>?_,λr y=>?_,h.l⟩
 ·rw[h.c r m];refine or_congr Iff.rfl ⟨?_,?_⟩
  ·rintro⟨q,i,h1,h2⟩;exact⟨q,i,dn_pred.2 (.inl h1),h2⟩
  ·rintro⟨q,i,h1,h2⟩;rcases dn_pred.1 h1 with h1 | ⟨rfl,rfl⟩
   ·exact⟨q,i,h1,h2⟩
   ·have:=h2.2.2.2.1;omega
 ·rw[h.w r y];constructor
  ·rintro⟨q,i,h1,h2⟩;exact⟨q,i,dn_pred.2 (.inl h1),h2⟩
  ·rintro⟨q,i,h1,h2⟩;rcases dn_pred.1 h1 with h1 | ⟨rfl,rfl⟩
   ·exact⟨q,i,h1,h2⟩
   ·have:=h2.2.2.2.1;omega
theorem zwv{G:Gm}{k j n:Nat}{C:Nat->Int->Bool}{W:Nat->List Nat}{D:Int->Bool}{em:Bool}(h:FlI G (Dn k (j+1)) n C W)(hk:k<G.prods.length)(ha:atF G (lhs G k)=true)(hj:j<(rhs G k).length)(hx:(G.nk:Int)<=(rhs G k).getD j 0)(hD:BeI G (rhs G k) (j+1) D em){y:Nat}(hy:((rhs G k).getD j 0 - G.nk).toNat=y) :
 FlI G (Dn k j) (n+1) (upC C y (orF (C y) D)) (if em then upW W y (lhs G k) else W):=by
 refine⟨λr m=>?_,λr z=>?_,λr=>?_⟩
 ·have key:upC C y (orF (C y) D) r m=true↔C r m=true\/FlS G k j r m:=by
   by_cases e:r=y
   ·subst e;rw[zbc];unfold orF;rw[Bool.or_eq_true,hD.1 m];refine or_congr Iff.rfl ⟨fun⟨h1,h2⟩=>⟨hk,ha,hj,hx,hy,h1,h2⟩,λh1=>⟨h1.2.2.2.2.2.1,h1.2.2.2.2.2.2⟩⟩
   ·rw[zcm e];exact⟨.inl,λh1=>h1.elim id (λh2=>absurd (h2.2.2.2.2.1.symm.trans hy) e)⟩
  rw[key,h.c r m];constructor
  ·rintro((h1 | ⟨q,i,h1,h2⟩) | h2)
   ·exact .inl h1
   ·exact .inr ⟨q,i,dn_pred.2 (.inl h1),h2⟩
   ·exact .inr ⟨k,j,dn_pred.2 (.inr ⟨rfl,rfl⟩),h2⟩
  ·rintro(h1 | ⟨q,i,h1,h2⟩)
   ·exact .inl (.inl h1)
   ·rcases dn_pred.1 h1 with h1 | ⟨rfl,rfl⟩
    ·exact .inl (.inr ⟨q,i,h1,h2⟩)
    ·exact .inr h2
 ·have key:z ∈ (if em then upW W y (lhs G k) else W) r↔z ∈ W r\/FlW G k j r z:=by
   have he:=hD.2
   cases em with
   | true =>
     rw[if_pos rfl,zoG];refine or_congr Iff.rfl ⟨fun⟨h1,h2⟩=>⟨hk,ha,hj,hx,hy.trans h1.symm,he.symm,h2.symm⟩,λh1=>⟨h1.2.2.2.2.1.symm.trans hy,h1.2.2.2.2.2.2.symm⟩⟩
   | false =>
     rw[if_neg (by simp)];exact⟨.inl,λh1=>h1.elim id (λh2=>by have:=h2.2.2.2.2.2.1;rw[<- he] at this;cases this)⟩
  rw[key,h.w r z];constructor
  ·rintro(⟨q,i,h1,h2⟩ | h2)
   ·exact⟨q,i,dn_pred.2 (.inl h1),h2⟩
   ·exact⟨k,j,dn_pred.2 (.inr ⟨rfl,rfl⟩),h2⟩
  ·rintro⟨q,i,h1,h2⟩;rcases dn_pred.1 h1 with h1 | ⟨rfl,rfl⟩
   ·exact .inl ⟨q,i,h1,h2⟩
   ·exact .inr h2
 ·have:=h.l r
  cases em with
  | true=>rw[if_pos rfl];have:=zit W y (lhs G k) r;omega
  | false=>rw[if_neg (by simp)];omega
theorem beg_lt{G:Gm}(hG:GOk G){row:List Int}(hr:zjE (G.nk+G.nr) row){k:Nat}(h:zet G.nk (zat G) (zdy G) row k=true):k<G.nk:=by
 obtain⟨i,hi,-,h⟩:=begB_iff.1 h;have:=hr _ (zbg hi);rcases h with ⟨h1,h2⟩ | ⟨-,h2⟩
 ·omega
 ·exact zmQ hG ((zfS _ _ _).1 h2)
theorem fl_end{G:Gm}(hG:GOk G){n:Nat}{C:Nat->Int->Bool}{W:Nat->List Nat}(h:FlI G (λq _=>q<G.prods.length) n C W)(r:Nat)(m:Int):Uw W C r m↔0<=m/\Flw G r m.toNat:=by
 constructor
 ·rintro⟨y,h1,h2⟩
  induction h1 with
  | refl x =>
    rcases(h.c _ _).1 h2 with ⟨rfl,rfl⟩ | ⟨q,i,-,hq,ha,hi,hx,rfl,h0,hb⟩
    ·exact⟨Int.le_refl _,.start⟩
    ·exact⟨h0,.first _ (zan hq) ha i hi hx _ (beg_lt hG (λz hz=>hG.py _ (zan hq) z (List.mem_of_mem_drop hz)) hb) hb⟩
  | step x y z hy _ ih =>
    obtain⟨q,i,-,hq,ha,hi,hx,rfl,he,rfl⟩:=(h.w _ _).1 hy;obtain⟨h3,h4⟩:=ih h2;exact⟨h3,.behind _ (zan hq) ha i hi hx he _ h4⟩
 ·rintro⟨h0,h1⟩;obtain⟨k,rfl⟩:=Int.eq_ofNat_of_zero_le h0;rw[zsS] at h1;clear h0
  induction h1 with
  | start=>exact⟨_,.refl _,(h.c _ _).2 (.inl ⟨rfl,rfl⟩)⟩
  | first p hp hr i hi hx k hk hb =>
    obtain⟨q,hq,rfl⟩:=zfV hp;exact⟨_,.refl _,(h.c _ _).2 (.inr ⟨q,i,hq,hq,hr,hi,hx,rfl,by omega,by rw[zsS];exact hb⟩)⟩
  | behind p hp hr i hi hx he k _ ih =>
    obtain⟨q,hq,rfl⟩:=zfV hp;obtain⟨y,h3,h4⟩:=ih;exact⟨y,.step _ _ _ ((h.w _ _).2 ⟨q,i,hq,hq,hr,hi,hx,rfl,he,rfl⟩) h3,h4⟩
noncomputable def zfU(G:Gm)(x:Int):Bool:=!(decide ((G.nk:Int)<=x) && zat G (x - G.nk).toNat)
noncomputable def za5(G:Gm)(row:List Int):List Int:=row.filter (zfU G)
theorem zn8(G:Gm)(row:List Int)(k:Nat)(hk:k<row.length):za5 G (row.take (k+1))=za5 G (row.take k) ++ if zfU G (row.getD k 0) then[row.getD k 0] else[]:=by
 unfold za5;rw[zcB row k 0 hk,List.filter_append]
 congr 1
 generalize row.getD k 0=x;by_cases h:zfU G x=true
 ·rw[if_pos h];simp[h]
 ·rw[if_neg h];simp[h]
theorem zhe(G:Gm)(row:List Int):(za5 G row).length<=row.length:=List.length_filter_le _ _
noncomputable def zcq(G:Gm)(row:List Int):List Int:=if (za5 G row).length=0 then zaA G.nk row else if (za5 G row).length=1 then zaA G.nk (za5 G row) else[]
theorem zb3{M:Nat}{w w':World}{G:Gm}{bb nb sb sc gb:Nat}{A:Nat->Nat}(h:BgAt M w G bb nb sb sc gb A)(hb:Below w.heap.size w w'):BgAt M w' G bb nb sb sc gb A:=by
 obtain⟨OO,rep,C,h1,h2⟩:=h.st;exact⟨(hb.block _ (zsO.1 h.bx).1).trans h.bx,h.nu.of_block (hb.block _ h.nu.lt),⟨OO,rep,C,zaZ h1 hb,h2⟩,h.b1,h.b2⟩
theorem zru(G:Gm)(hG:GOk G)(ka:Option Addr)(kc gb bb nb:Nat)(sv:Value)(ro:Option Addr)(rowc:Nat)(row:List Int)(hl:row.length<=64)(hx:zjE (G.nk+G.nr) row)(w:World)(hgb:gb<w.heap.size)(hc0:w.cell? ⟨gb,0,none⟩=some (.slice ka G.kinds.length kc))(hbx:w.heap[bb]? = some (.cells #[.pointer (some ⟨gb,0,none⟩),.slice (some ⟨nb,0,none⟩) G.rules.length G.rules.length,sv] 168 (0,0)))(hnu:w.rowIs nb 4 G.rules.length (λr=>.bool (zat G r)))(hrow:NRow w.heap.size w ro row) :
 Calls Tryz.prog 159 #[.pointer (some ⟨bb,0,none⟩),.slice ro row.length rowc] w λe w'=>∃ v,e=.returned v/\w'.ownsRow w.heap.size 3 1 v (zcq G row).length (zao (zcq G row))/\Below w.heap.size w w':=by
 obtain⟨i3,hi3,hz30,hz31,hz32⟩:=zah zdB;have hk3:=hG.k3;have hr2:=hG.r2;unfold Gm.nk at hk3;unfold Gm.nr at hr2;have hnot:=zbl;have Hc0:=zaa hc0;have Hrow:=zaa hrow;have Hx:=zaa hx;have Hbx:=zaa hbx;have Hnu:=zaa hnu;clear hc0 hrow hx hbx hnu;go_enter Tryz.func159,Tryz.ntmps159;go_wp2
 go_loopw [5,12] (λu x W=>∃ k:Nat,x=.int .i64 k/\k<=row.length/\W.ownsRow w.heap.size 3 1 u (za5 G (row.take k)).length (zao (za5 G (row.take k)))/\Below w.heap.size w W) (λ_ x _=>row.length - (intOf x).toNat)
 case atStart=>exact⟨0,rfl,zsK _,World.ownsRow_nil _ _ _ _,zsY _ _⟩
 case round =>
  obtain⟨k,rfl,hk,hown,hb⟩:=hrel;obtain⟨ua,uc,rfl⟩:=zaf hown;have hsz:=hb.size;have hle:=zhe G (row.take k);rw[zsV] at hle;have hbx:=(hb.block _ (zsO.1 (uh Hbx)).1).trans (uh Hbx);have hnuw:=(uh Hnu).of_block (hb.block _ (uh Hnu).lt);have b0:wr.cell? ⟨bb,0,none⟩=some (.pointer (some ⟨gb,0,none⟩)):=by unfold World.cell?;rw[hbx];rfl
  have b1:wr.cell? ⟨bb,1,none⟩=some (.slice (some ⟨nb,0,none⟩) G.rules.length G.rules.length):=by unfold World.cell?;rw[hbx];rfl
  have c0:=(hb.cell (p:=⟨gb,0,none⟩) hgb).trans (uh Hc0);have Hown:=zaa hown;have Hb:=zaa hb;clear hbx;by_cases hlt:k<row.length
  ·have hlt':(k:Int)<row.length:=by omega
   obtain⟨b,off,rfl,hbl,hc⟩:=zbf (zaS hb (uh Hrow)) hlt;have hxk:=uh Hx _ (zbg hlt);unfold Gm.nk Gm.nr at hxk;have Hs:=zaa (zn8 G row k hlt);have HR:=zaa (zgl gb (row.getD k 0) G.kinds.length ka kc hk3 (by omega) wr c0);have hfb:zfU G (row.getD k 0)=!(decide ((G.kinds.length:Int)<=row.getD k 0) && zat G (row.getD k 0 - (G.kinds.length:Nat)).toNat):=rfl;clear hown hb;generalize row.getD k 0=x at *;generalize hFm:za5 G (row.take k)=acc at *;have App:∀ (hf:zfU G x=true),Hid (za5 G (row.take (k+1))=acc ++ [x]):=λhf=>zaa (by have:=uh Hs;rw[if_pos hf] at this;exact this);by_cases hr:(G.kinds.length:Int)<=x
   ·rw[if_pos hr,decide_eq_true hr] at HR;rw[decide_eq_true hr,Bool.true_and] at hfb;obtain⟨y,hy⟩:∃ y:Nat,x - G.kinds.length=(y:Int):=⟨(x - G.kinds.length).toNat,by omega⟩;rw[hy] at HR hfb;rw[zsS] at hfb;have hyn:y<G.rules.length:=by omega
    have hyn':(y:Int)<G.rules.length:=by omega
    have ny:=hnuw.cell hyn
    cases hnu:zat G y with
    | true =>
      rw[hnu] at hfb ny;have Hs2:Hid (za5 G (row.take (k+1))=acc):=zaa (by have:=uh Hs;rw[hfb] at this;simpa using this);clear App Hs hfb hnuw;go_wp2_with fail;refine(uh HR).mono ?_;rintro e w9 ⟨rfl,rfl⟩;go_wp2;go_roundw
      case rel=>exact⟨k+1,by go_num,by omega,by rw[uh Hs2];exact uh Hown,uh Hb⟩
      case measure=>simp[intOf];omega
    | false =>
      rw[hnu] at hfb ny;have Hs2:=App hfb;clear App Hs hfb hnuw;go_wp2_with fail;refine(uh HR).mono ?_;rintro e w9 ⟨rfl,rfl⟩;go_wp2_with (at_builtin;refine wpList_append_own _ rfl _ _ 50 rfl w.heap.size 3 i3 (.int .i64 0) 1 8 Tryz.underlying50 hi3 hz30 hz31 hz32 rfl (by decide) _ _ _ rfl ((uh Hown).alloc _) ⟨wr.heap.size,0,none⟩ 1 1 [.int .i64 x] rfl rfl (zpR _ _ _) ?zc2 ?zc3 ?zc4 ?zc5 ?_)
      case zc2=>intro u hu;simp at hu;rcases hu with rfl;rfl
      case zc3=>unfold maxLen;omega
      case zc4=>omega
      case zc5=>simp;omega
      intro v' W3 hown' hgrow _;have Hb4:=zaa (((uh Hb).alloc hsz _).grown hgrow (by simp;omega) (λj hj=>((uh Hown).lt j hj).1));have Ho4:=zaa (show W3.ownsRow w.heap.size 3 1 v' (za5 G (row.take (k+1))).length (zao (za5 G (row.take (k+1)))) by rw[uh Hs2,<- zaY,zsI];exact hown');clear hown' hgrow;go_wp2;go_roundw
      case rel=>exact⟨k+1,by go_num,by omega,uh Ho4,uh Hb4⟩
      case measure=>simp[intOf];omega
   ·rw[if_neg hr,decide_eq_false hr] at HR;rw[decide_eq_false hr] at hfb;have Hs2:=App hfb;clear App Hs hfb hnuw;go_wp2_with fail;refine(uh HR).mono ?_;rintro e w9 ⟨rfl,rfl⟩;go_wp2_with (at_builtin;refine wpList_append_own _ rfl _ _ 50 rfl w.heap.size 3 i3 (.int .i64 0) 1 8 Tryz.underlying50 hi3 hz30 hz31 hz32 rfl (by decide) _ _ _ rfl ((uh Hown).alloc _) ⟨wr.heap.size,0,none⟩ 1 1 [.int .i64 x] rfl rfl (zpR _ _ _) ?zc2 ?zc3 ?zc4 ?zc5 ?_)
    case zc2=>intro u hu;simp at hu;rcases hu with rfl;rfl
    case zc3=>unfold maxLen;omega
    case zc4=>omega
    case zc5=>simp;omega
    intro v' W3 hown' hgrow _;have Hb4:=zaa (((uh Hb).alloc hsz _).grown hgrow (by simp;omega) (λj hj=>((uh Hown).lt j hj).1));have Ho4:=zaa (show W3.ownsRow w.heap.size 3 1 v' (za5 G (row.take (k+1))).length (zao (za5 G (row.take (k+1)))) by rw[uh Hs2,<- zaY,zsI];exact hown');clear hown' hgrow;go_wp2;go_roundw
    case rel=>exact⟨k+1,by go_num,by omega,uh Ho4,uh Hb4⟩
    case measure=>simp[intOf];omega
  ·obtain rfl:k=row.length:=by omega
   rw[zsN] at Hown hown ⊢;have hsr:∀ x,x ∈ row->0<=x/\x<=281474976710656:=λx hx=>by have:=uh Hx x hx;unfold Gm.nk Gm.nr at this;omega
   have HA:=zaa (zdk gb G.kinds.length ka kc hk3 ro rowc row (by omega) hsr wr c0 (by omega) (zeg hsz (zaS hb (uh Hrow))));have hfn:NRow wr.heap.size wr ua (za5 G row):=by
    obtain⟨_,_,he,hn⟩:=zb4 hown
    cases he
    exact hn
   have hfl:=zhe G row;have HF:=zaa (zdk gb G.kinds.length ka kc hk3 ua uc (za5 G row) (by omega) (λx hx=>hsr x (List.mem_filter.1 hx).1) wr c0 (by omega) hfn);have Hal:Hid (zcq G row=if (za5 G row).length=0 then zaA G.kinds.length row else if (za5 G row).length=1 then zaA G.kinds.length (za5 G row) else[]):=zaa rfl;clear hown hb hfn hnuw;by_cases h0:(za5 G row).length=0
   ·rw[if_pos h0] at Hal;have h0':((za5 G row).length:Int)=0:=by omega
    rw[h0] at HF ⊢;go_wp2_with fail;refine(uh HA).mono ?_;rintro e w9 ⟨v9,rfl,ho9,hb9⟩;have Ho9:=zaa (show w9.ownsRow w.heap.size 3 1 v9 (zcq G row).length (zao (zcq G row)) by rw[uh Hal];exact zaR ho9 hsz);have Hb9:=zaa ((uh Hb).trans (zab hb9 hsz));clear ho9 hb9;go_wp2;go_ret;exact⟨v9,rfl,uh Ho9,uh Hb9⟩
   ·rw[if_neg h0] at Hal;by_cases h1:(za5 G row).length=1
    ·rw[if_pos h1] at Hal;rw[h1] at HF ⊢;go_wp2_with fail;refine(uh HF).mono ?_;rintro e w9 ⟨v9,rfl,ho9,hb9⟩;have Ho9:=zaa (show w9.ownsRow w.heap.size 3 1 v9 (zcq G row).length (zao (zcq G row)) by rw[uh Hal];exact zaR ho9 hsz);have Hb9:=zaa ((uh Hb).trans (zab hb9 hsz));clear ho9 hb9;go_wp2;go_ret;exact⟨v9,rfl,uh Ho9,uh Hb9⟩
    ·rw[if_neg h1] at Hal;have h0':¬ ((za5 G row).length:Int)=0:=by omega
     have h1':¬ ((za5 G row).length:Int)=1:=by omega
     generalize (za5 G row).length=fl at *;go_wp2;go_ret;exact⟨_,rfl,by rw[uh Hal];exact World.ownsRow_nil _ _ _ _,uh Hb⟩
theorem zlm(w:World):Calls Tryz.prog 114 #[] w λe w'=>e=.returned (.pointer (some ⟨w.heap.size,0,none⟩))/\w'=w.alloc (.cells #[.slice none 0 0,.map none] 239):=by
 go_enter Tryz.func114,Tryz.ntmps114;go_wp2;go_ret;exact⟨rfl,rfl⟩
section
variable {B:Nat} {w V V':World} {n np bb mb sb tb:Nat} {L su:Nat->Int} {ml:List Int} {O:Nat->Prop} {H:Nat->Option Int}
end
theorem smG_ok{G:Gm}(hG:GOk G):smG G:=λp hp=>by have:=hG.pr p hp;omega
theorem zi7(q:Nat)(w:World):Calls Tryz.prog 108 (#[.int .i64 (q:Int)] ++ #[]) w λe w'=>e=.returned (.bool true)/\w'=w:=by
 show Calls Tryz.prog 108 #[.int .i64 (q:Int)] w _;go_enter Tryz.func108,Tryz.ntmps108;go_wp2;go_ret;exact⟨rfl,rfl⟩
theorem zw4:∀ args W,Sem.run Tryz.prog (callFunc 108 args) W=.ok (.enter 108 args) W:=λ_ _=>by simp[callFunc,Tryz.func108,Tryz.f108,go_sem,Result.andThen]
theorem ziD(G:Gm)(hG:GOk G)(ka pa ra qa:Option Addr)(kc pc rc qc gb ob ub:Nat)(M:Nat)(w:World)(hM:M<=w.heap.size)(hg:GrAt M w G ka kc pa pc ra rc qa qc gb ob ub) :
 Calls Tryz.prog 107 #[.pointer (some ⟨gb,0,none⟩),.func (.func 108) #[] #[]] w λe w'=>∃ b:Nat,e=.returned (.slice (some ⟨b,0,none⟩) G.rules.length G.rules.length)/\w'.rowIs b 4 G.rules.length (λr=>.bool (atF G r))/\w.heap.size<=b/\Below w.heap.size w w' :=
 zlb G hG ka pa ra qa kc pc rc qc gb ob ub M 108 #[] (λ_=>true) (λ_=>true) (λ_ _=>rfl) zw4 w hM hg (λW q hq _=>(zi7 q W).mono λe W' ⟨h1,h2⟩=>⟨h1,by rw[h2];exact zsY _ _⟩)
theorem zgI{P:Program}{w:World}(base:Nat)(t ty e:TypeId)(i:TypeInfo)(size:Nat)(ht:P.underlying t=some (.slice e))(hi:P.info? e=some i)
 (v:Value) (n:Nat) (xs:List Value) (hown:w.ownsRow base e size v n xs) (la:Option Addr) (c:Nat) :
 (Builtin.append_ #[t,t] ty #[v,.slice la 0 c]).run P w=.ok v w:=by
 have hl:∀ ad:Addr,Sem.run P (loadCells ad 0) w=.ok #[] w:=λad=>by unfold loadCells;rfl
 rcases hown.2 with ⟨rfl,rfl⟩ | ⟨g,cap,cur,rfl,_,_,hnc,_⟩
 ·cases la <;> simp[Builtin.append_,run_underlying ht,sizeOf,typeInfo,hi,Builtin.lenOf,Builtin.firstCells,hl]
 ·cases la <;> simp[Builtin.append_,run_underlying ht,sizeOf,typeInfo,hi,Builtin.lenOf,Builtin.firstCells,hnc,storeCells,hl]
theorem zgc{P:Program}{w:World}{ops:Array Oper}{o:Oper}{a:Act}{K:Act->World->Prop}{Q:Exit->Act->World->Prop}{E:Prop}(hgd:o.guard=none)(s x:Operand)(t:TypeId)
 (ho:o.op=.call { callee:=.builtin .append,args:=#[s,x],argTypes:=#[t,t] })
 (base:Nat) (e:TypeId) (i:TypeInfo) (size:Nat) (ht:P.underlying t=some (.slice e)) (hi:P.info? e=some i)
 (v:Value) (n:Nat) (xs:List Value) (hs:a.eval s=v) (hown:w.ownsRow base e size v n xs) (la:Option Addr) (c:Nat) (hx:a.eval x=.slice la 0 c) (h:K (a.put o.dst v) w) :
 if Region.wanted o (yielded ops a.tmps)=true then Oper.wp P o a w K Q else E:=by
 have hw:Region.wanted o (yielded ops a.tmps)=true:=by simp[Region.wanted,hgd]
 rw[if_pos hw];have hrun:=zgI (P:=P) (w:=w) base t o.type e i size ht hi v n xs hown la c;unfold Oper.wp;simp[execOp,ho,resolve,invoke,builtin,hs,hx,hrun,Result.andThen];exact h
def zrK(W:Nat->List Nat)(r:Nat)(l:List Nat):Nat->List Nat:=λs=>if s=r then W r ++ l else W s
theorem zkY(W:Nat->List Nat)(r:Nat)(l:List Nat):zkO (λr=>zag (W r)) r (zag (W r) ++ zag l)=λs=>zag (zrK W r l s):=by
 funext s;unfold zkO zrK;by_cases e:s=r
 ·subst e;rw[if_pos rfl,if_pos rfl];simp[zag]
 ·rw[if_neg e,if_neg e]
theorem zrO(W:Nat->List Nat)(r:Nat):zrK W r []=W:=by funext s;unfold zrK;by_cases e:s=r <;> simp[e]
theorem zqC{G:Gm}{row:List Int}:za5 G row=[]↔zar G.nk (zat G) row=true:=by
 unfold za5;rw[List.filter_eq_nil_iff,emptyB_iff];constructor
 ·intro h x hx;have:=h x hx;unfold zfU at this;simpa using this
 ·intro h x hx;have:=h x hx;unfold zfU;simpa using this
theorem zhf(G:Gm)(a b:List Int):za5 G (a ++ b)=za5 G a ++ za5 G b:=List.filter_append ..
theorem ziC{G:Gm}{row:List Int}{j:Nat}(hj:j<row.length):zar G.nk (zat G) (zmj row j)=true↔za5 G row=if zfU G (row.getD j 0) then[row.getD j 0] else[]:=by
 have e1:row=row.take j ++ ([row.getD j 0] ++ row.drop (j+1)):=by
  have h1:row.getD j 0=row[j]:=by rw[zsE,zsF hj];rfl
  rw[h1,List.singleton_append,List.getElem_cons_drop,List.take_append_drop]
 have e2:za5 G row=za5 G (row.take j) ++ ((if zfU G (row.getD j 0) then[row.getD j 0] else[]) ++ za5 G (row.drop (j+1))):=by
  have h1:za5 G [row.getD j 0]=if zfU G (row.getD j 0) then[row.getD j 0] else[]:=by
   unfold za5;generalize row.getD j 0=x;by_cases h:zfU G x=true
   ·rw[if_pos h];simp[h]
   ·rw[if_neg h];simp[h]
  rw[<- h1,<- zhf,<- zhf,<- e1]
 unfold zmj;rw[<- zqC,zhf,e2];constructor
 ·intro h;obtain⟨h1,h2⟩:=List.append_eq_nil_iff.1 h;rw[h1,h2];simp
 ·intro h;have hl:=congrArg List.length h;rw[zsI,zsI] at hl;have h1:(za5 G (row.take j)).length=0:=by omega
  have h2:(za5 G (row.drop (j+1))).length=0:=by omega
  rw[zsX h1,zsX h2];rfl
theorem rulesL_memH{nk:Nat}{row:List Int}{y:Int}:y ∈ zaA nk row↔∃ j,j<row.length/\(nk:Int)<=row.getD j 0/\row.getD j 0 - nk=y:=by
 unfold zaA;rw[List.mem_flatMap];constructor
 ·rintro⟨x,hx,hy⟩;obtain⟨j,hj,rfl⟩:=List.getElem_of_mem hx;have h1:row.getD j 0=row[j]:=by rw[zsE,zsF hj];rfl
  split at hy
  ·rename_i h2;simp at hy;exact⟨j,hj,by rw[h1];exact h2,by rw[h1];exact hy.symm⟩
  ·cases hy
 ·rintro⟨j,hj,h1,h2⟩;refine⟨row.getD j 0,zbg hj,?_⟩;rw[if_pos h1,h2];simp
theorem alone_mem{G:Gm}{row:List Int}{y:Int}:y ∈ zcq G row↔∃ j,j<row.length/\(G.nk:Int)<=row.getD j 0/\row.getD j 0 - G.nk=y/\zar G.nk (zat G) (zmj row j)=true:=by
 unfold zcq;constructor
 ·intro h
  split at h
  ·rename_i h0;have h0:=zsX h0;obtain⟨j,hj,h1,h2⟩:=rulesL_memH.1 h;refine⟨j,hj,h1,h2,(ziC hj).2 ?_⟩;have hf:zfU G (row.getD j 0)≠true:=λhf=>by
    have:row.getD j 0 ∈ za5 G row:=List.mem_filter.2 ⟨zbg hj,hf⟩;rw[h0] at this;cases this
   rw[h0,if_neg hf]
  ·split at h
   ·rename_i h0 h1;obtain⟨f,hf⟩:=List.length_eq_one_iff.1 h1;rw[hf] at h;obtain⟨i,hi,h2,h3⟩:=rulesL_memH.1 h;have hi0:i=0:=by simp at hi;omega
    subst hi0;simp only[List.getD_cons_zero] at h2 h3;have hfm:f ∈ za5 G row:=by rw[hf];simp
    obtain⟨hm,hb⟩:=List.mem_filter.1 hfm;obtain⟨j,hj,hje⟩:=List.getElem_of_mem hm;have h4:row.getD j 0=f:=by rw[zsE,zsF hj];exact hje
    exact⟨j,hj,by rw[h4];exact h2,by rw[h4];exact h3,(ziC hj).2 (by rw[h4,if_pos hb,hf])⟩
   ·cases h
 ·rintro⟨j,hj,h1,h2,h3⟩;have h4:=(ziC hj).1 h3;by_cases hf:zfU G (row.getD j 0)=true
  ·rw[if_pos hf] at h4;rw[h4,if_neg (by simp),if_pos (by simp)];exact rulesL_memH.2 ⟨0,by simp,h1,h2⟩
  ·rw[if_neg hf] at h4;rw[h4,if_pos (by simp)];exact rulesL_memH.2 ⟨j,hj,h1,h2⟩
structure CyI (G:Gm) (k:Nat) (W:Nat->List Nat):Prop where
 w:∀ r y,y ∈ W r↔∃ q,q<k/\q<G.prods.length/\lhs G q=r/\(y:Int) ∈ zcq G (rhs G q)
 l:∀ r,(W r).length<=64 * k
theorem ztO(G:Gm):CyI G 0 (λ_=>[]):=⟨λr y=>⟨λh=>(by cases h),fun⟨q,h,_⟩=>(by omega)⟩,λr=>by simp⟩
theorem zwE{G:Gm}{k:Nat}{W:Nat->List Nat}(h:CyI G k W)(hk:k<G.prods.length){al:List Nat}(ha:zcq G (rhs G k)=zag al)(hl:al.length<=64):CyI G (k+1) (zrK W (lhs G k) al):=by
 refine⟨λr y=>?_,λr=>?_⟩
 ·have key:y ∈ zrK W (lhs G k) al r↔y ∈ W r\/r=lhs G k/\y ∈ al:=by
   unfold zrK;by_cases e:r=lhs G k
   ·subst e;simp
   ·simp[e]
  rw[key,h.w r y];constructor
  ·rintro(⟨q,h1,h2⟩ | ⟨rfl,h2⟩)
   ·exact⟨q,by omega,h2⟩
   ·exact⟨k,by omega,hk,rfl,by rw[ha];unfold zag;exact List.mem_map.2 ⟨y,h2,rfl⟩⟩
  ·rintro⟨q,h1,h2,h3,h4⟩;by_cases e:q=k
   ·subst e;rw[ha] at h4;unfold zag at h4;obtain⟨z,hz,hzy⟩:=List.mem_map.1 h4;have:z=y:=by omega
    subst this;exact .inr ⟨h3.symm,hz⟩
   ·exact .inl ⟨q,by omega,h2,h3,h4⟩
 ·unfold zrK;have:=h.l r;have h2:=h.l (lhs G k);by_cases e:r=lhs G k
  ·rw[if_pos e,zsI];omega
  ·rw[if_neg e];omega
theorem cy_end{G:Gm}{W:Nat->List Nat}(h:CyI G G.prods.length W)(r:Nat):zdj W r=ztc G r r:=by
 have one:∀ a b,b ∈ W a->Mks G a b:=λa b hb=>by
  obtain⟨q,-,hq,rfl,h1⟩:=(h.w a b).1 hb;obtain⟨j,hj,h2,h3,h4⟩:=alone_mem.1 h1;have e:b=((G.prods.getD q pd0).right.getD j 0 - G.nk).toNat:=by have h3:(G.prods.getD q pd0).right.getD j 0 - G.nk=(b:Int):=h3;omega
  rw[e];exact .one _ (zan hq) j hj h2 h4
 have rh:∀ a b,Rh W a b->a=b\/Mks G a b:=λa b hab=>by
  induction hab with
  | refl x=>exact .inl rfl
  | step x y z hy _ ih =>
    rcases ih with rfl | ih
    ·exact .inr (one _ _ hy)
    ·exact .inr (.trans _ _ _ (one _ _ hy) ih)
 have back:∀ a b,Mks G a b->∃ y,y ∈ W a/\Rh W y b:=λa b hab=>by
  induction hab with
  | one p hp j hj hx he =>
    obtain⟨q,hq,rfl⟩:=List.getElem_of_mem hp;have e:G.prods[q]=G.prods.getD q pd0:=by rw[zsE,zsF hq];rfl
    rw[e] at hj hx he ⊢;refine⟨_,(h.w _ _).2 ⟨q,hq,hq,rfl,alone_mem.2 ⟨j,hj,hx,?_,he⟩⟩,.refl _⟩;show (rhs G q).getD j 0 - G.nk=((((rhs G q).getD j 0 - G.nk).toNat:Nat):Int);have hx:(G.nk:Int)<=(rhs G q).getD j 0:=hx;omega
  | trans a b c _ _ ih1 ih2 =>
    obtain⟨y,h1,h2⟩:=ih1;obtain⟨z,h3,h4⟩:=ih2;exact⟨y,h1,h2.trans (.step _ _ _ h3 h4)⟩
 have h1:zdj W r=true↔∃ y,y ∈ W r/\Rh W y r:=by unfold zdj;simp
 rw[Bool.eq_iff_iff,h1,zvV];constructor
 ·rintro⟨y,h2,h3⟩;rcases rh _ _ h3 with rfl | h3
  ·exact one _ _ h2
  ·exact .trans _ _ _ (one _ _ h2) h3
 ·exact back r r
theorem zrs{G:Gm}{row:List Int}:∃ al:List Nat,zcq G row=zag al:=by
 refine⟨(zcq G row).map Int.toNat,?_⟩;unfold zag;rw[List.map_map];symm
 conv=>rhs;rw[<- List.map_id (zcq G row)]
 refine List.map_congr_left λx hx=>?_;obtain⟨j,-,h1,h2,-⟩:=alone_mem.1 hx;simp only[Function.comp,id];omega
theorem zrt(G:Gm)(row:List Int):(zcq G row).length<=row.length:=by
 unfold zcq;have h1:=za2 (nk:=G.nk) row;have h2:=za2 (nk:=G.nk) (za5 G row);have h3:=zhe G row
 split
 ·omega
 ·split
  ·omega
  ·simp
theorem zoe(G:Gm)(hG:GOk G)(ka pa ra qa:Option Addr)(kc pc rc qc gb ob ub:Nat)(M N:Nat)(bb nb sb sc:Nat)(A:Nat->Nat)(w:World)(hM:M<=w.heap.size)(hg:GrAt M w G ka kc pa pc ra rc qa qc gb ob ub)(hbg:BgAt N w G bb nb sb sc gb A) :
 Calls Tryz.prog 110 #[.pointer (some ⟨bb,0,none⟩)] w λe w'=>∃ b:Nat,e=.returned (.slice (some ⟨b,0,none⟩) G.rules.length G.rules.length)/\w'.rowIs b 4 G.rules.length (λr=>.bool (ztc G r r))/\w.heap.size<=b/\Below w.heap.size w w':=by
 have hr2:=hG.r2;have hr1:=hG.r1;have hps:=hG.ps;unfold Gm.nr at hr2 hr1;have hbx:=hbg.bx;have hgx:=hg.box;have hgl:=hg.lt;have b0:w.cell? ⟨bb,0,none⟩=some (.pointer (some ⟨gb,0,none⟩)):=by unfold World.cell?;rw[hbx];rfl
 have g2:w.cell? ⟨gb,2,none⟩=some (.slice ra G.rules.length rc):=by unfold World.cell?;rw[hgx];rfl
 have hal:Below w.heap.size w (w.alloc (.cells (madeCells #[.slice none 0 0] G.rules.length) 50)):=(zsY _ _).alloc (zsG _) _;have b0a:=(hal.cell (p:=⟨bb,0,none⟩) (zsO.1 hbx).1).trans b0;have g3:w.cell? ⟨gb,3,none⟩=some (.slice qa G.prods.length qc):=by unfold World.cell?;rw[hgx];rfl
 have g3a:=(hal.cell (p:=⟨gb,3,none⟩) (by show gb<_;omega)).trans g3;have hmk:=λw=>run_make_row' (P:=Tryz.prog) 221 50 (.slice none 0 0) 24 Tryz.underlying221 zf1 rfl .i64 .i64 G.rules.length (by omega) (by omega) w;have Hg:=zaa hg;have Hbg:=zaa hbg;have Hal:=zaa hal;clear hg hbg hbx hgx hal;go_enter Tryz.func110,Tryz.ntmps110;go_wp2;have hbgA:BgAt N (w.alloc (.cells (madeCells #[.slice none 0 0] G.rules.length) 50)) G bb nb sb sc gb A:=zb3 (uh Hbg) (uh Hal);have hT0:zim w.heap.size (w.alloc (.cells (madeCells #[.slice none 0 0] G.rules.length) 50)) w.heap.size G.rules.length (λ_=>[]):=by
  obtain⟨V,hV⟩:=zeF w G.rules.length;exact⟨V,(za3 hV).1,λk hk=>by rw[(za3 hV).2 k hk];exact zsG _⟩
 have HT0:=zaa hT0;clear hbgA hT0;generalize hwb:w.heap.size=wb at *
 go_loopw [25] (λx X=>∃ (k:Nat) (W:Nat->List Nat),x=.int .i64 k/\k<=G.prods.length/\CyI G k W/\zim wb X wb G.rules.length W/\Below wb w X) (λx _=>G.prods.length - (intOf x).toNat)
 case atStart=>exact⟨0,_,rfl,zsK _,ztO G,uh HT0,uh Hal⟩
 case round =>
  clear HT0;obtain⟨k,W,rfl,hk,hCy,hTb,hb⟩:=hrel;have hszw:wb<=wr.heap.size:=by have:=hb.size;omega
  by_cases hlt:k<G.prods.length
  ·have hlt':(k:Int)<G.prods.length:=by omega
   have hgr:=za1 (uh Hg) (zab hb hM);obtain⟨b,off,rfl,hbB,rr,rrc,x3,x4,x5,x6,n6,c6,hrr,-,q0,q1,q2,q3,q4,q5,q6⟩:=zdm hgr.gin.prods hlt;have hpl:=hG.pl _ (zan hlt);have hpr:=hG.pr _ (zan hlt);have hpy:=hG.py _ (zan hlt);obtain⟨al,hal⟩:=zrs (G:=G) (row:=rhs G k);have hall:al.length<=64:=by have h1:=zrt G (rhs G k);rw[hal,zam] at h1;have h2:(rhs G k).length<=64:=hpr;omega
   have HCy:=zaa (zwE hCy hlt hal hall);have hcl:=hCy.l;unfold rhs at hal;unfold lhs at HCy;generalize G.prods.getD k pd0=p at *;obtain⟨pl,prt,plv,pac⟩:=p;simp only at q0 q1 q2 hpl hpr hpy hrr hal HCy;obtain⟨l,rfl⟩:∃ l:Nat,pl=(l:Int):=⟨pl.toNat,by omega⟩;rw[zsS] at HCy;have hl':l<G.rules.length:=by have:=hpl.2;unfold Gm.nr at this;omega
   have hli:(l:Int)<G.rules.length:=by omega
   obtain⟨W2,hW2⟩:∃ W2,W2=wr.alloc (.cells #[.int .i64 (l:Int),.slice rr prt.length rrc,.int .i64 plv,.int .i64 x3,.int .i64 x4,.string x5,.slice x6 n6 c6] 116):=⟨_,rfl⟩;have hb2:Below wr.heap.size wr W2:=by rw[hW2];exact(zsY _ _).alloc (zsG _) _
   have hpb:W2.heap[wr.heap.size]? = some (.cells #[.int .i64 (l:Int),.slice rr prt.length rrc,.int .i64 plv,.int .i64 x3,.int .i64 x4,.string x5,.slice x6 n6 c6] 116):=by rw[hW2];exact zsH _ _
   have hbW:Below wb w W2:=hb.trans (zab hb2 hszw);have hszW:wb<=W2.heap.size:=by have:=hbW.size;omega
   obtain⟨V,hV,hVM⟩:=zd9 hTb hb2;obtain⟨ta,tc,hVl,tcl,-,-⟩:=za6 hV hl';have hgr2:=za1 (uh Hg) (zab hbW hM)
   have HAl:Hid (∀ W',Fr (λ_=>False) W2 W'->Calls Tryz.prog 159 #[.pointer (some ⟨bb,0,none⟩),.slice rr prt.length rrc] W' λe w'=>∃ v,e=.returned v/\w'.ownsRow W'.heap.size 3 1 v (zag al).length (zao (zag al))/\Below W'.heap.size W' w'):=zaa (λW' hf=>by
    have hbW':Below W2.heap.size W2 W':=zau hf (zsG _) (λ_ h=>h.elim);have hs9:=hbW'.size;have hb9:Below wb w W':=hbW.trans (zab hbW' hszW);have hg9:=za1 (uh Hg) (zab hb9 hM);have hbg9:=zb3 (uh Hbg) (show Below w.heap.size w W' by rw[hwb];exact hb9);have hrr9:NRow M W' rr prt:=zaS (zab ((zab hb2 hszw).trans (zab hbW' hszW)) (by omega)) hrr;rw[<- hal]
    exact zru G hG ka kc gb bb nb _ rr rrc prt hpr hpy W' (by have:=hg9.lt;omega) (by unfold World.cell?;rw[hg9.box];rfl) hbg9.bx hbg9.nu (zeg (by omega) hrr9))
   have hpn:¬ zaG G.rules.length wb V wr.heap.size:=λho=>by
    obtain⟨cs,t9,h3,h4⟩:=zdi hV ho;rw[hpb] at h3;simp only[Option.some.injEq,Obj.cells.injEq] at h3;obtain⟨-,h5,-⟩:=h3;subst h5;rcases h4 with h4 | h4 <;> cases h4
   have HS:Hid (∀ W',Fr (zaG G.rules.length wb V) W2 W'->(λW:World=>W.cell? ⟨wr.heap.size,0,none⟩=some (.int .i64 (l:Int))/\W.cell? ⟨wr.heap.size,1,none⟩=some (.slice rr prt.length rrc)) W'):=zaa (λW' hf=>by
    have h1:=(hf.2.1 _ (zsO.1 hpb).1 hpn).trans hpb
    exact⟨by unfold World.cell?;rw[h1];rfl,by unfold World.cell?;rw[h1];rfl⟩)
   have HFin:Hid (∀ (V':World) (O':Nat->Prop),zbB O' V' wb G.rules.length (zkO (λr=>zag (W r)) l (zag (W l) ++ zag al))->Fr (zaG G.rules.length wb V) W2 V'->(∀ k,O' k->zaG G.rules.length wb V k\/W2.heap.size<=k)->zim wb V' wb G.rules.length (zrK W l al)/\Below wb w V'):=zaa (λV' O' h1 h2 h3=>by
    rw[zkY] at h1;obtain⟨V9,h9⟩:=h1
    exact⟨⟨V9,(za3 h9).1,λk hk=>(h3 k ((za3 h9).2 k hk)).elim (hVM k) (λh=>by omega)⟩,hbW.trans (zau h2 hszW hVM)⟩)
   have HFin0:Hid (∀ (V':World) (O':Nat->Prop),zbB O' V' wb G.rules.length (λr=>zag (W r))->Fr (zaG G.rules.length wb V) W2 V'->(∀ k,O' k->zaG G.rules.length wb V k\/W2.heap.size<=k)->zim wb V' wb G.rules.length W/\Below wb w V'):=zaa (λV' O' h1 h2 h3=>by
    obtain⟨V9,h9⟩:=h1
    exact⟨⟨V9,(za3 h9).1,λk hk=>(h3 k ((za3 h9).2 k hk)).elim (hVM k) (λh=>by omega)⟩,hbW.trans (zau h2 hszW hVM)⟩)
   have HT:=zaa hV;have HVl:=zaa hVl;have HRow:=zaa (show W2.ownsRow 0 3 1 (.slice ta (zag (W l)).length tc) (zag (W l)).length (zao (zag (W l))) by rw[<- hVl];exact(hV.rows l hl').1);have hlen:(zag (W l)).length<=300000:=by rw[zam];have:=hcl l;omega
   have hal64:(zag al).length<=64:=by rw[zam];exact hall
   have hlr:=hl';have hF0:Fr (zaG G.rules.length wb V) W2 W2:=zax _ _;have hFF:Fr (λ_=>False) W2 W2:=zax _ _;obtain⟨i3,hi3,hz30,hz31,hz32⟩:=zah zdB;clear hgr hrr hpy hCy hTb hb hb2 hpb hbW hV hVl hgr2 hcl hal hpn;by_cases hz:al.length=0
   ·have hal0:al=[]:=zsX hz;subst hal0;rw[zrO] at HCy;have e0:(zag ([]:List Nat)).length=0:=rfl;rw[e0] at HAl;generalize hFl:zag (W l)=Fl at *;clear HFin;go_wp2;rw[<- hW2];clear hW2;generalize wr.heap.size=pb at *;refine wp_region_held_drew (S:=(λW:World=>W.cell? ⟨pb,0,none⟩=some (.int .i64 (l:Int))/\W.cell? ⟨pb,1,none⟩=some (.slice rr prt.length rrc))) (by kernel_rfl) (uh HS _ hF0) (λhH=>?_);refine zad 0 29 rfl rfl hH (λw ⟨k0,k1⟩=>by go_simp;try rfl) ?_;simp only[Act.put,zsA,zsB,zsC];refine zad 1 30 rfl rfl hH (λw ⟨k0,k1⟩=>by go_simp;try rfl) ?_;simp only[Act.put,zsA,zsB,zsC];refine zad 2 31 rfl rfl hH (λw ⟨k0,k1⟩=>by go_simp;try rfl) ?_;simp only[Act.put,zsA,zsB,zsC];refine zad 3 32 rfl rfl hH (λw ⟨k0,k1⟩=>by go_simp;try rfl) ?_;simp only[Act.put,zsA,zsB,zsC];refine zad 4 33 rfl rfl hH (λw ⟨k0,k1⟩=>by go_simp;try rfl) ?_;simp only[Act.put,zsA,zsB,zsC];refine zad 5 34 rfl rfl hH (λw ⟨k0,k1⟩=>by go_simp;try rfl) ?_;simp only[Act.put,zsA,zsB,zsC];refine zad 6 35 rfl rfl hH (λw ⟨k0,k1⟩=>by go_simp;try rfl) ?_;simp only[Act.put,zsA,zsB,zsC];refine zad 8 37 rfl rfl hH (λw ⟨k0,k1⟩=>by go_simp;try rfl) ?_;simp only[Act.put,zsA,zsB,zsC];refine zad 9 38 rfl rfl hH (λw ⟨k0,k1⟩=>by go_simp;try rfl) ?_;simp only[Act.put,zsA,zsB,zsC];refine zad 10 39 rfl rfl hH (λw ⟨k0,k1⟩=>by go_simp;try rfl) ?_;simp only[Act.put,zsA,zsB,zsC];refine zcV 7 11 rfl rfl (λK hK=>?_) λK hK=>?_;go_simp;refine hK.out _ _ (uh HS _ hF0) (λhH=>?_);clear hK K;refine zai 11 rfl λK hK=>?_;go_simp;go_at_call 159;refine(uh HAl W2.drew hFF).mono ?_;rintro e W3 ⟨v3,rfl,ho3,hb3⟩;have hb3:Below W2.heap.size W2 W3:=⟨hb3.os,hb3.tape,hb3.output,hb3.size,hb3.block⟩;obtain⟨qa9,qc,hv3⟩:=zaf ho3;subst hv3;clear ho3;go_wp2_with fail;rotate_left;go_simp;go_at_call 159;refine(uh HAl W2.drew hFF).mono ?_;rintro e W3 ⟨v3,rfl,ho3,hb3⟩;have hb3:Below W2.heap.size W2 W3:=⟨hb3.os,hb3.tape,hb3.output,hb3.size,hb3.block⟩;obtain⟨qa9,qc,hv3⟩:=zaf ho3;subst hv3;clear ho3;go_wp2_with fail;refine hK.out _ _ (uh HS _ (zae hb3)) (λhH=>?_);clear hK K;refine zai 7 rfl λK hK=>?_;have tcl2:W3.cell? ⟨wb,l,none⟩=some (.slice ta Fl.length tc):=(hb3.cell (p:=⟨wb,l,none⟩) ((uh HT).lt _ (uh HT).own)).trans tcl;go_simp;rotate_left
    all_goals
     refine hK.out _ _ (uh HS _ (zae hb3)) (λhH=>?_);clear hK K;refine zai 12 rfl λK hK=>?_;have hF3:Fr (zaG G.rules.length wb V) W2 W3:=zae hb3;have ow:=zaR (zaW (uh HRow) hb3) (zsG _);refine zgc rfl (.tmp 36) (.tmp 40) 50 rfl 0 3 i3 1 Tryz.underlying50 hi3 (.slice ta Fl.length tc) Fl.length (zao Fl) (by simp[Act.eval]) ow qa9 qc (by simp[Act.eval]) ?_;go_simp;refine hK.out _ _ (uh HS _ hF3) (λhH=>?_);clear hK K;refine zad 13 42 rfl rfl hH (λw ⟨k0,k1⟩=>by go_simp;try rfl) ?_;simp only[Act.put,zsA,zsB,zsC];refine zai 14 rfl λK hK=>?_;have hcz:W3.cell? ⟨wb,l,none⟩=some (.slice ta Fl.length tc):=(hb3.cell (p:=⟨wb,l,none⟩) ((uh HT).lt _ (uh HT).own)).trans tcl;have hfz:W3.frozen? ⟨wb,l,none⟩=false:=((uh HT).row.of_block (hb3.block _ ((uh HT).lt _ (uh HT).own))).frozen l;go_simp;have hF7:Fr (zaG G.rules.length wb V) W2 (W3.setCell ⟨wb,l,none⟩ (.slice ta Fl.length tc)):=zaD hF3 (.inl rfl) _;refine hK.out _ _ (uh HS _ hF7) (λhH=>?_);clear hK K;refine wpAnyH_done (by kernel_rfl) ?_ _;have HF7:=zaa hF7;have HT7:=zaa (show zbB (zaG G.rules.length wb V) (W3.setCell ⟨wb,l,none⟩ (.slice ta Fl.length tc)) wb G.rules.length (λr=>zag (W r)) by rw[Wk.set_same hcz];exact⟨V,ze2 (uh HT) (zae (O:=λ_=>False) hb3) (λ_ _ h=>h)⟩);clear ow hF7 hfz hcz hH;have h9:=uh HFin0 _ _ (uh HT7) (uh HF7) (λk hk=>.inl hk);have H1:=zaa h9.1;have H2:=zaa h9.2;clear h9 HT7 HF7;go_wp2;go_roundw
     case rel=>exact⟨k+1,W,by go_num,by omega,uh HCy,uh H1,uh H2⟩
     case measure=>simp[intOf];omega
   ·have hpos:0<(zag al).length:=by rw[zam];omega
    generalize hAl:zag al=al' at *;generalize hFl:zag (W l)=Fl at *;clear HFin0;go_wp2;rw[<- hW2];clear hW2;generalize wr.heap.size=pb at *;refine wp_region_held_drew (S:=(λW:World=>W.cell? ⟨pb,0,none⟩=some (.int .i64 (l:Int))/\W.cell? ⟨pb,1,none⟩=some (.slice rr prt.length rrc))) (by kernel_rfl) (uh HS _ hF0) (λhH=>?_);refine zad 0 29 rfl rfl hH (λw ⟨k0,k1⟩=>by go_simp;try rfl) ?_;simp only[Act.put,zsA,zsB,zsC];refine zad 1 30 rfl rfl hH (λw ⟨k0,k1⟩=>by go_simp;try rfl) ?_;simp only[Act.put,zsA,zsB,zsC];refine zad 2 31 rfl rfl hH (λw ⟨k0,k1⟩=>by go_simp;try rfl) ?_;simp only[Act.put,zsA,zsB,zsC];refine zad 3 32 rfl rfl hH (λw ⟨k0,k1⟩=>by go_simp;try rfl) ?_;simp only[Act.put,zsA,zsB,zsC];refine zad 4 33 rfl rfl hH (λw ⟨k0,k1⟩=>by go_simp;try rfl) ?_;simp only[Act.put,zsA,zsB,zsC];refine zad 5 34 rfl rfl hH (λw ⟨k0,k1⟩=>by go_simp;try rfl) ?_;simp only[Act.put,zsA,zsB,zsC];refine zad 6 35 rfl rfl hH (λw ⟨k0,k1⟩=>by go_simp;try rfl) ?_;simp only[Act.put,zsA,zsB,zsC];refine zad 8 37 rfl rfl hH (λw ⟨k0,k1⟩=>by go_simp;try rfl) ?_;simp only[Act.put,zsA,zsB,zsC];refine zad 9 38 rfl rfl hH (λw ⟨k0,k1⟩=>by go_simp;try rfl) ?_;simp only[Act.put,zsA,zsB,zsC];refine zad 10 39 rfl rfl hH (λw ⟨k0,k1⟩=>by go_simp;try rfl) ?_;simp only[Act.put,zsA,zsB,zsC];refine zcV 7 11 rfl rfl (λK hK=>?_) λK hK=>?_;go_simp;refine hK.out _ _ (uh HS _ hF0) (λhH=>?_);clear hK K;refine zai 11 rfl λK hK=>?_;go_simp;go_at_call 159;refine(uh HAl W2.drew hFF).mono ?_;rintro e W3 ⟨v3,rfl,ho3,hb3⟩;have hb3:Below W2.heap.size W2 W3:=⟨hb3.os,hb3.tape,hb3.output,hb3.size,hb3.block⟩;obtain⟨q,qc,hv3,-⟩:=Wk.own_pos ho3 hpos;subst hv3;have Hnw:=zaa (show ∀ j u,(zao al')[j]? = some u->W3.cell? ((⟨q,0,none⟩:Addr).add j)=some u from λj u hu=>ho3.cells rfl j u hu);clear ho3;go_wp2_with fail;rotate_left;go_simp;go_at_call 159;refine(uh HAl W2.drew hFF).mono ?_;rintro e W3 ⟨v3,rfl,ho3,hb3⟩;have hb3:Below W2.heap.size W2 W3:=⟨hb3.os,hb3.tape,hb3.output,hb3.size,hb3.block⟩;obtain⟨q,qc,hv3,-⟩:=Wk.own_pos ho3 hpos;subst hv3;have Hnw:=zaa (show ∀ j u,(zao al')[j]? = some u->W3.cell? ((⟨q,0,none⟩:Addr).add j)=some u from λj u hu=>ho3.cells rfl j u hu);clear ho3;go_wp2_with fail;refine hK.out _ _ (uh HS _ (zae hb3)) (λhH=>?_);clear hK K;refine zai 7 rfl λK hK=>?_;have tcl2:W3.cell? ⟨wb,l,none⟩=some (.slice ta Fl.length tc):=(hb3.cell (p:=⟨wb,l,none⟩) ((uh HT).lt _ (uh HT).own)).trans tcl;go_simp;rotate_left
    all_goals
     refine hK.out _ _ (uh HS _ (zae hb3)) (λhH=>?_);clear hK K;refine zai 12 rfl λK hK=>?_;have ow:=zaR (zaW (uh HRow) hb3) (zsG _);refine step_append_lies _ rfl (.tmp 36) (.tmp 40) 50 rfl 0 3 i3 (.int .i64 0) 1 8 Tryz.underlying50 hi3 hz30 hz31 hz32 rfl (by decide) (.slice ta Fl.length tc) Fl.length (zao Fl) (by simp[Act.eval]) ow ⟨q,0,none⟩ al'.length qc (zao al') (by simp[Act.eval]) (by rw[zbh,Nat.mul_one]) (uh Hnw) (zjz _) hpos (by unfold maxLen;omega) (by omega) (zsK _) _ rfl ?_;intro g cap W6 ho6 hg6 hw6 hlt6;have hg6:W3.grownBy W6 (Value.ownBlock (.slice ta Fl.length tc)):=⟨hg6.os,hg6.tape,hg6.output,hg6.size,hg6.block⟩;rw[<- uh HVl] at hg6 hw6;have ho6:W6.ownsRow 0 3 1 (.slice (some ⟨g,0,none⟩) (Fl ++ al').length cap) (Fl ++ al').length (zao (Fl ++ al')):=by rw[zjA,zsI];exact ho6
     obtain⟨hT7,hF7⟩:=zd8 (uh HT) hlr hb3 rfl ho6 hg6 hw6 hlt6;have hF3:Fr (zaG G.rules.length wb V) W2 W3:=zae hb3;have hF6:Fr (zaG G.rules.length wb V) W2 W6:=⟨zsy hF3.1 hg6.size,λj hj ho=>(hg6.block j (zsJ hj hF3.1) (λe=>ho (((uh HT).rows _ hlr).2 j e.symm))).trans (hF3.2.1 j hj ho),hg6.os.trans hF3.2.2.1,hg6.tape.trans hF3.2.2.2.1,hg6.output.trans hF3.2.2.2.2⟩;go_simp;refine hK.out _ _ (uh HS _ hF6) (λhH=>?_);clear hK K;refine zad 13 42 rfl rfl hH (λw ⟨k0,k1⟩=>by go_simp;try rfl) ?_;simp only[Act.put,zsA,zsB,zsC];refine zai 14 rfl λK hK=>?_;have hfz:W6.frozen? ⟨wb,l,none⟩=false:=(zbI (uh HT) hlr hb3 hg6);have hcz:=zcs (uh HT) hlr hb3 hg6;rw[uh HVl] at hcz;go_simp;have hlen6:(Fl ++ al').length=Fl.length+al'.length:=by simp
     rw[hlen6] at hT7 hF7;refine hK.out _ _ (uh HS _ hF7) (λhH=>?_);clear hK K;refine wpAnyH_done (by kernel_rfl) ?_ _;have HT7:=zaa hT7;have HF7:=zaa hF7;clear ow hT7 hF7 hF6 ho6 hg6 hw6 hlt6 hfz hcz hlen6 hH;have h9:=uh HFin _ _ (uh HT7) (uh HF7) (λk hk=>hk.imp id (λh=>h.1));have H1:=zaa h9.1;have H2:=zaa h9.2;clear h9 HT7 HF7;go_wp2;go_roundw
     case rel=>exact⟨k+1,zrK W l al,by go_num,by omega,uh HCy,uh H1,uh H2⟩
     case measure=>simp[intOf];omega
  ·obtain rfl:k=G.prods.length:=by omega
   obtain⟨hway,-,-⟩:=zix hTb;have hWb:∀ r,r<G.rules.length->∀ y,y ∈ W r->y<G.rules.length:=λr _ y hy=>by
    obtain⟨q,-,hq,-,h1⟩:=(hCy.w r y).1 hy;obtain⟨j,hj,h2,h3,-⟩:=alone_mem.1 h1;have h4:(rhs G q).getD j 0<((G.nk+G.nr:Nat):Int):=(hG.py _ (zan hq) _ (zbg hj)).2;unfold Gm.nr at h4;omega
   have HTh:=zaa (zgb W G.rules.length wb G.rules.length hr2 hWb (λr=>by have:=hCy.l r;omega) wr hway);have Hen:=zaa (λr=>cy_end hCy r);have Hb:=zaa hb;clear hCy hTb hb hway hWb;go_wp2_with fail;refine(uh HTh).mono ?_;rintro e w9 ⟨b9,rfl,hr9,hl9,hb9⟩;have Hr9:=zaa (hr9.congr (g:=λr=>.bool (ztc G r r)) (λr _=>by rw[uh Hen r]));have Hb9:=zaa ((uh Hb).trans (zab hb9 hszw));clear hr9 hb9;go_wp2;go_ret;exact⟨b9,rfl,uh Hr9,by omega,by rw[hwb];exact uh Hb9⟩
end Go.Proofs.YtieciibnajeibaaGreatDoor

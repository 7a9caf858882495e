/- The code's cyclic: which rules make themselves alone. -/
import Derived.Test.YtagohbpbgjelaaaGreatDoorHQ
import Derived.Test.YtagohbpbgjelaaaGreatDoorGZ
namespace Go.Proofs.YtagohbpbgjelaaaGreatDoor
open Go.RowKit

theorem zfY {P:Program} {w:World} (base:Nat) (t ty e:TypeId) (i:TypeInfo) (size:Nat) (ht:P.underlying t=some (.slice e)) (hi:P.info? e=some i)
 (v:Value) (n:Nat) (xs:List Value) (hown:w.ownsRow base e size v n xs) (la:Option Addr) (c:Nat) :
 (Builtin.append_ #[t,t] ty #[v,.slice la 0 c]).run P w=.ok v w:=by
 have hl:∀ ad:Addr,Sem.run P (loadCells ad 0) w=.ok #[] w:=fun ad=>by unfold loadCells;rfl
 rcases hown.2 with ⟨rfl,rfl⟩ | ⟨g,cap,cur,rfl,_,_,hnc,_⟩
 ·cases la <;> simp[Builtin.append_,run_underlying ht,sizeOf,typeInfo,hi,Builtin.lenOf,Builtin.firstCells,hl]
 ·cases la <;> simp[Builtin.append_,run_underlying ht,sizeOf,typeInfo,hi,Builtin.lenOf,Builtin.firstCells,hnc,storeCells,hl]
theorem zds {P:Program} {w:World} {ops:Array Oper} {o:Oper} {a:Act} {K:Act→World→Prop} {Q:Exit→Act→World→Prop} {E:Prop} (hgd:o.guard=none) (s x:Operand) (t:TypeId)
 (ho:o.op=.call { callee:=.builtin .append,args:=#[s,x],argTypes:=#[t,t] })
 (base:Nat) (e:TypeId) (i:TypeInfo) (size:Nat) (ht:P.underlying t=some (.slice e)) (hi:P.info? e=some i)
 (v:Value) (n:Nat) (xs:List Value) (hs:a.eval s=v) (hown:w.ownsRow base e size v n xs) (la:Option Addr) (c:Nat) (hx:a.eval x=.slice la 0 c) (h:K (a.put o.dst v) w) :
 if Region.wanted o (yielded ops a.tmps)=true then Oper.wp P o a w K Q else E:=by
 have hw:Region.wanted o (yielded ops a.tmps)=true:=by simp[Region.wanted,hgd]
 rw[if_pos hw]
 have hrun:=zfY (P:=P) (w:=w) base t o.type e i size ht hi v n xs hown la c
 unfold Oper.wp
 simp[execOp,ho,resolve,invoke,builtin,hs,hx,hrun,Result.andThen]
 exact h
def zl4 (W:Nat→List Nat) (r:Nat) (l:List Nat):Nat→List Nat:=fun s=>if s=r then W r ++ l else W s
theorem zje (W:Nat→List Nat) (r:Nat) (l:List Nat):zjf (fun r=>zai (W r)) r (zai (W r) ++ zai l)=fun s=>zai (zl4 W r l s):=by
 funext s
 unfold zjf zl4
 by_cases e:s=r
 ·subst e;rw[if_pos rfl,if_pos rfl];simp[zai]
 ·rw[if_neg e,if_neg e]
theorem zov (W:Nat→List Nat) (r:Nat):zl4 W r []=W:=by funext s;unfold zl4;by_cases e:s=r <;> simp[e]
theorem znJ {G:Gm} {row:List Int}:zbj G row=[]↔zaT G.nk (zaO G) row=true:=by
 unfold zbj
 rw[List.filter_eq_nil_iff,emptyB_iff]
 constructor
 ·intro h x hx
  have:=h x hx
  unfold zfi at this
  simpa using this
 ·intro h x hx
  have:=h x hx
  unfold zfi
  simpa using this
theorem zgp (G:Gm) (a b:List Int):zbj G (a ++ b)=zbj G a ++ zbj G b:=List.filter_append ..
theorem zhs {G:Gm} {row:List Int} {j:Nat} (hj:j<row.length):zaT G.nk (zaO G) (zkb row j)=true↔zbj G row=if zfi G (row.getD j 0) then[row.getD j 0] else[]:=by
 have e1:row=row.take j ++ ([row.getD j 0] ++ row.drop (j+1)):=by
  have h1:row.getD j 0=row[j]:=by rw[List.getD_eq_getElem?_getD,List.getElem?_eq_getElem hj];rfl
  rw[h1,List.singleton_append,List.getElem_cons_drop,List.take_append_drop]
 have e2:zbj G row=zbj G (row.take j) ++ ((if zfi G (row.getD j 0) then[row.getD j 0] else[]) ++ zbj G (row.drop (j+1))):=by
  have h1:zbj G [row.getD j 0]=if zfi G (row.getD j 0) then[row.getD j 0] else[]:=by
   unfold zbj
   generalize row.getD j 0=x
   by_cases h:zfi G x=true
   ·rw[if_pos h];simp[h]
   ·rw[if_neg h];simp[h]
  rw[← h1,← zgp,← zgp,← e1]
 unfold zkb
 rw[← znJ,zgp,e2]
 constructor
 ·intro h
  obtain⟨h1,h2⟩:=List.append_eq_nil_iff.1 h
  rw[h1,h2];simp
 ·intro h
  have hl:=congrArg List.length h
  rw[List.length_append,List.length_append] at hl
  have h1:(zbj G (row.take j)).length=0:=by omega
  have h2:(zbj G (row.drop (j+1))).length=0:=by omega
  rw[List.eq_nil_of_length_eq_zero h1,List.eq_nil_of_length_eq_zero h2];rfl
theorem rulesL_memH {nk:Nat} {row:List Int} {y:Int}:y ∈ zar nk row↔∃ j,j<row.length∧(nk:Int)≤row.getD j 0∧row.getD j 0 - nk=y:=by
 unfold zar
 rw[List.mem_flatMap]
 constructor
 ·rintro⟨x,hx,hy⟩
  obtain⟨j,hj,rfl⟩:=List.getElem_of_mem hx
  have h1:row.getD j 0=row[j]:=by rw[List.getD_eq_getElem?_getD,List.getElem?_eq_getElem hj];rfl
  split at hy
  ·rename_i h2
   simp at hy
   exact⟨j,hj,by rw[h1];exact h2,by rw[h1];exact hy.symm⟩
  ·cases hy
 ·rintro⟨j,hj,h1,h2⟩
  refine⟨row.getD j 0,za5 hj,?_⟩
  rw[if_pos h1,h2];simp
theorem alone_mem {G:Gm} {row:List Int} {y:Int}:y ∈ zcx G row↔∃ j,j<row.length∧(G.nk:Int)≤row.getD j 0∧row.getD j 0 - G.nk=y∧zaT G.nk (zaO G) (zkb row j)=true:=by
 unfold zcx
 constructor
 ·intro h
  split at h
  ·rename_i h0
   have h0:=List.eq_nil_of_length_eq_zero h0
   obtain⟨j,hj,h1,h2⟩:=rulesL_memH.1 h
   refine⟨j,hj,h1,h2,(zhs hj).2 ?_⟩
   have hf:zfi G (row.getD j 0)≠true:=fun hf=>by
    have:row.getD j 0 ∈ zbj G row:=List.mem_filter.2 ⟨za5 hj,hf⟩
    rw[h0] at this;cases this
   rw[h0,if_neg hf]
  ·split at h
   ·rename_i h0 h1
    obtain⟨f,hf⟩:=List.length_eq_one_iff.1 h1
    rw[hf] at h
    obtain⟨i,hi,h2,h3⟩:=rulesL_memH.1 h
    have hi0:i=0:=by simp at hi;omega
    subst hi0
    simp only[List.getD_cons_zero] at h2 h3
    have hfm:f ∈ zbj G row:=by rw[hf];simp
    obtain⟨hm,hb⟩:=List.mem_filter.1 hfm
    obtain⟨j,hj,hje⟩:=List.getElem_of_mem hm
    have h4:row.getD j 0=f:=by rw[List.getD_eq_getElem?_getD,List.getElem?_eq_getElem hj];exact hje
    exact⟨j,hj,by rw[h4];exact h2,by rw[h4];exact h3,(zhs hj).2 (by rw[h4,if_pos hb,hf])⟩
   ·cases h
 ·rintro⟨j,hj,h1,h2,h3⟩
  have h4:=(zhs hj).1 h3
  by_cases hf:zfi G (row.getD j 0)=true
  ·rw[if_pos hf] at h4
   rw[h4,if_neg (by simp),if_pos (by simp)]
   exact rulesL_memH.2 ⟨0,by simp,h1,h2⟩
  ·rw[if_neg hf] at h4
   rw[h4,if_pos (by simp)]
   exact rulesL_memH.2 ⟨j,hj,h1,h2⟩
structure CyI (G:Gm) (k:Nat) (W:Nat→List Nat):Prop where
 w:∀ r y,y ∈ W r↔∃ q,q<k∧q<G.prods.length∧lhs G q=r∧(y:Int) ∈ zcx G (rhs G q)
 l:∀ r,(W r).length≤64 * k
theorem zpI (G:Gm):CyI G 0 (fun _=>[]):=⟨fun r y=>⟨fun h=>(by cases h),fun⟨q,h,_⟩=>(by omega)⟩,fun r=>by simp⟩
theorem zrp {G:Gm} {k:Nat} {W:Nat→List Nat} (h:CyI G k W) (hk:k<G.prods.length) {al:List Nat} (ha:zcx G (rhs G k)=zai al) (hl:al.length≤64):CyI G (k+1) (zl4 W (lhs G k) al):=by
 refine⟨fun r y=>?_,fun r=>?_⟩
 ·have key:y ∈ zl4 W (lhs G k) al r↔y ∈ W r∨r=lhs G k∧y ∈ al:=by
   unfold zl4
   by_cases e:r=lhs G k
   ·subst e;simp
   ·simp[e]
  rw[key,h.w r y]
  constructor
  ·rintro(⟨q,h1,h2⟩ | ⟨rfl,h2⟩)
   ·exact⟨q,by omega,h2⟩
   ·exact⟨k,by omega,hk,rfl,by rw[ha];unfold zai;exact List.mem_map.2 ⟨y,h2,rfl⟩⟩
  ·rintro⟨q,h1,h2,h3,h4⟩
   by_cases e:q=k
   ·subst e
    rw[ha] at h4
    unfold zai at h4
    obtain⟨z,hz,hzy⟩:=List.mem_map.1 h4
    have:z=y:=by omega
    subst this
    exact .inr ⟨h3.symm,hz⟩
   ·exact .inl ⟨q,by omega,h2,h3,h4⟩
 ·unfold zl4
  have:=h.l r
  have h2:=h.l (lhs G k)
  by_cases e:r=lhs G k
  ·rw[if_pos e,List.length_append];omega
  ·rw[if_neg e];omega
theorem cy_end {G:Gm} {W:Nat→List Nat} (h:CyI G G.prods.length W) (r:Nat):zdk W r=zop G r r:=by
 have one:∀ a b,b ∈ W a→Mks G a b:=fun a b hb=>by
  obtain⟨q,-,hq,rfl,h1⟩:=(h.w a b).1 hb
  obtain⟨j,hj,h2,h3,h4⟩:=alone_mem.1 h1
  have e:b=((G.prods.getD q pd0).right.getD j 0 - G.nk).toNat:=by have h3:(G.prods.getD q pd0).right.getD j 0 - G.nk=(b:Int):=h3;omega
  rw[e]
  exact .one _ (zag hq) j hj h2 h4
 have rh:∀ a b,Rh W a b→a=b∨Mks G a b:=fun a b hab=>by
  induction hab with
  | refl x=>exact .inl rfl
  | step x y z hy _ ih =>
    rcases ih with rfl | ih
    ·exact .inr (one _ _ hy)
    ·exact .inr (.trans _ _ _ (one _ _ hy) ih)
 have back:∀ a b,Mks G a b→∃ y,y ∈ W a∧Rh W y b:=fun a b hab=>by
  induction hab with
  | one p hp j hj hx he =>
    obtain⟨q,hq,rfl⟩:=List.getElem_of_mem hp
    have e:G.prods[q]=G.prods.getD q pd0:=by rw[List.getD_eq_getElem?_getD,List.getElem?_eq_getElem hq];rfl
    rw[e] at hj hx he ⊢
    refine⟨_,(h.w _ _).2 ⟨q,hq,hq,rfl,alone_mem.2 ⟨j,hj,hx,?_,he⟩⟩,.refl _⟩
    show (rhs G q).getD j 0 - G.nk=((((rhs G q).getD j 0 - G.nk).toNat:Nat):Int)
    have hx:(G.nk:Int)≤(rhs G q).getD j 0:=hx
    omega
  | trans a b c _ _ ih1 ih2 =>
    obtain⟨y,h1,h2⟩:=ih1
    obtain⟨z,h3,h4⟩:=ih2
    exact⟨y,h1,h2.trans (.step _ _ _ h3 h4)⟩
 have h1:zdk W r=true↔∃ y,y ∈ W r∧Rh W y r:=by unfold zdk;simp
 rw[Bool.eq_iff_iff,h1,zqU]
 constructor
 ·rintro⟨y,h2,h3⟩
  rcases rh _ _ h3 with rfl | h3
  ·exact one _ _ h2
  ·exact .trans _ _ _ (one _ _ h2) h3
 ·exact back r r
theorem zoa {G:Gm} {row:List Int}:∃ al:List Nat,zcx G row=zai al:=by
 refine⟨(zcx G row).map Int.toNat,?_⟩
 unfold zai
 rw[List.map_map]
 symm
 conv=>rhs;rw[← List.map_id (zcx G row)]
 refine List.map_congr_left fun x hx=>?_
 obtain⟨j,-,h1,h2,-⟩:=alone_mem.1 hx
 simp only[Function.comp,id]
 omega
theorem zob (G:Gm) (row:List Int):(zcx G row).length≤row.length:=by
 unfold zcx
 have h1:=zaR (nk:=G.nk) row
 have h2:=zaR (nk:=G.nk) (zbj G row)
 have h3:=zgo G row
 split
 ·omega
 ·split
  ·omega
  ·simp
set_option maxHeartbeats 2000000 in
set_option maxRecDepth 100000 in
theorem zlH (G:Gm) (hG:GOk G) (ka pa ra qa:Option Addr) (kc pc rc qc gb ob ub:Nat) (M N:Nat) (bb nb sb sc:Nat) (A:Nat→Nat) (w:World) (hM:M≤w.heap.size) (hg:GrAt M w G ka kc pa pc ra rc qa qc gb ob ub) (hbg:BgAt N w G bb nb sb sc gb A) :
 Calls Tryz.prog 35 #[.pointer (some ⟨bb,0,none⟩)] w fun e w'=>∃ b:Nat,e=.returned (.slice (some ⟨b,0,none⟩) G.rules.length G.rules.length)∧w'.rowIs b 4 G.rules.length (fun r=>.bool (zop G r r))∧w.heap.size≤b∧Below w.heap.size w w':=by
 have hr2:=hG.r2;have hr1:=hG.r1;have hps:=hG.ps
 unfold Gm.nr at hr2 hr1
 have hbx:=hbg.bx
 have hgx:=hg.box
 have hgl:=hg.lt
 have b0:w.cell? ⟨bb,0,none⟩=some (.pointer (some ⟨gb,0,none⟩)):=by unfold World.cell?;rw[hbx];rfl
 have g2:w.cell? ⟨gb,2,none⟩=some (.slice ra G.rules.length rc):=by unfold World.cell?;rw[hgx];rfl
 have hal:Below w.heap.size w (w.alloc (.cells (madeCells #[.slice none 0 0] G.rules.length) 27)):=(Below.refl _ _).alloc (Nat.le_refl _) _
 have b0a:=(hal.cell (p:=⟨bb,0,none⟩) (Array.getElem?_eq_some_iff.1 hbx).1).trans b0
 have g3:w.cell? ⟨gb,3,none⟩=some (.slice qa G.prods.length qc):=by unfold World.cell?;rw[hgx];rfl
 have g3a:=(hal.cell (p:=⟨gb,3,none⟩) (by show gb<_;omega)).trans g3
 have hmk:=fun w=>run_make_row' (P:=Tryz.prog) 109 27 (.slice none 0 0) 24 Tryz.underlying109 zg5 rfl .i64 .i64 G.rules.length (by omega) (by omega) w
 have Hg:=zaa hg;have Hbg:=zaa hbg;have Hal:=zaa hal
 clear hg hbg hbx hgx hal
 go_enter Tryz.func35,Tryz.ntmps35
 go_wp2
 have hbgA:BgAt N (w.alloc (.cells (madeCells #[.slice none 0 0] G.rules.length) 27)) G bb nb sb sc gb A:=zcf (uh Hbg) (uh Hal)
 have hT0:zhj w.heap.size (w.alloc (.cells (madeCells #[.slice none 0 0] G.rules.length) 27)) w.heap.size G.rules.length (fun _=>[]):=by
  obtain⟨V,hV⟩:=zfS w G.rules.length
  exact⟨V,(zbg hV).1,fun k hk=>by rw[(zbg hV).2 k hk];exact Nat.le_refl _⟩
 have HT0:=zaa hT0
 clear hbgA hT0
 generalize hwb:w.heap.size=wb at *
 go_loopw [25] (fun x X=>∃ (k:Nat) (W:Nat→List Nat),x=.int .i64 k∧k≤G.prods.length∧CyI G k W∧zhj wb X wb G.rules.length W∧Below wb w X) (fun x _=>G.prods.length - (intOf x).toNat)
 case atStart=>exact⟨0,_,rfl,Nat.zero_le _,zpI G,uh HT0,uh Hal⟩
 case round =>
  clear HT0
  obtain⟨k,W,rfl,hk,hCy,hTb,hb⟩:=hrel
  have hszw:wb≤wr.heap.size:=by have:=hb.size;omega
  by_cases hlt:k<G.prods.length
  ·have hlt':(k:Int)<G.prods.length:=by omega
   have hgr:=zaJ (uh Hg) (zab hb hM)
   obtain⟨b,off,rfl,hbB,rr,rrc,x3,x4,x5,x6,n6,c6,hrr,-,q0,q1,q2,q3,q4,q5,q6⟩:=zbz hgr.gin.prods hlt
   have hpl:=hG.pl _ (zag hlt)
   have hpr:=hG.pr _ (zag hlt)
   have hpy:=hG.py _ (zag hlt)
   obtain⟨al,hal⟩:=zoa (G:=G) (row:=rhs G k)
   have hall:al.length≤64:=by have h1:=zob G (rhs G k);rw[hal,zak] at h1;have h2:(rhs G k).length≤64:=hpr;omega
   have HCy:=zaa (zrp hCy hlt hal hall)
   have hcl:=hCy.l
   unfold rhs at hal
   unfold lhs at HCy
   generalize G.prods.getD k pd0=p at *
   obtain⟨pl,prt,plv,pac⟩:=p
   simp only at q0 q1 q2 hpl hpr hpy hrr hal HCy
   obtain⟨l,rfl⟩:∃ l:Nat,pl=(l:Int):=⟨pl.toNat,by omega⟩
   rw[Int.toNat_natCast] at HCy
   have hl':l<G.rules.length:=by have:=hpl.2;unfold Gm.nr at this;omega
   have hli:(l:Int)<G.rules.length:=by omega
   obtain⟨W2,hW2⟩:∃ W2,W2=wr.alloc (.cells #[.int .i64 (l:Int),.slice rr prt.length rrc,.int .i64 plv,.int .i64 x3,.int .i64 x4,.string x5,.slice x6 n6 c6] 89):=⟨_,rfl⟩
   have hb2:Below wr.heap.size wr W2:=by rw[hW2];exact(Below.refl _ _).alloc (Nat.le_refl _) _
   have hpb:W2.heap[wr.heap.size]? = some (.cells #[.int .i64 (l:Int),.slice rr prt.length rrc,.int .i64 plv,.int .i64 x3,.int .i64 x4,.string x5,.slice x6 n6 c6] 89):=by rw[hW2];exact Go.Deep.blk_alloc_new _ _
   have hbW:Below wb w W2:=hb.trans (zab hb2 hszw)
   have hszW:wb≤W2.heap.size:=by have:=hbW.size;omega
   obtain⟨V,hV,hVM⟩:=zdZ hTb hb2
   obtain⟨ta,tc,hVl,tcl,-,-⟩:=zbC hV hl'
   have hgr2:=zaJ (uh Hg) (zab hbW hM)
   have HAl:Hid (∀ W',Fr (fun _=>False) W2 W'→Calls Tryz.prog 88 #[.pointer (some ⟨bb,0,none⟩),.slice rr prt.length rrc] W' fun e w'=>∃ v,e=.returned v∧w'.ownsRow W'.heap.size 3 1 v (zai al).length (zal (zai al))∧Below W'.heap.size W' w'):=zaa (fun W' hf=>by
    have hbW':Below W2.heap.size W2 W':=zah hf (Nat.le_refl _) (fun _ h=>h.elim)
    have hs9:=hbW'.size
    have hb9:Below wb w W':=hbW.trans (zab hbW' hszW)
    have hg9:=zaJ (uh Hg) (zab hb9 hM)
    have hbg9:=zcf (uh Hbg) (show Below w.heap.size w W' by rw[hwb];exact hb9)
    have hrr9:NRow M W' rr prt:=zau (zab ((zab hb2 hszw).trans (zab hbW' hszW)) (by omega)) hrr
    rw[← hal]
    exact zoc G hG ka kc gb bb nb _ rr rrc prt hpr hpy W' (by have:=hg9.lt;omega) (by unfold World.cell?;rw[hg9.box];rfl) hbg9.bx hbg9.nu (zch (by omega) hrr9))
   have hpn:¬ zaA G.rules.length wb V wr.heap.size:=fun ho=>by
    obtain⟨cs,t9,h3,h4⟩:=zdj hV ho
    rw[hpb] at h3
    simp only[Option.some.injEq,Obj.cells.injEq] at h3
    obtain⟨-,h5,-⟩:=h3
    subst h5
    rcases h4 with h4 | h4 <;> cases h4
   have HS:Hid (∀ W',Fr (zaA G.rules.length wb V) W2 W'→(fun W:World=>W.cell? ⟨wr.heap.size,0,none⟩=some (.int .i64 (l:Int))∧W.cell? ⟨wr.heap.size,1,none⟩=some (.slice rr prt.length rrc)) W'):=zaa (fun W' hf=>by
    have h1:=(hf.2.1 _ (Array.getElem?_eq_some_iff.1 hpb).1 hpn).trans hpb
    exact⟨by unfold World.cell?;rw[h1];rfl,by unfold World.cell?;rw[h1];rfl⟩)
   have HFin:Hid (∀ (V':World) (O':Nat→Prop),zb8 O' V' wb G.rules.length (zjf (fun r=>zai (W r)) l (zai (W l) ++ zai al))→Fr (zaA G.rules.length wb V) W2 V'→(∀ k,O' k→zaA G.rules.length wb V k∨W2.heap.size≤k)→zhj wb V' wb G.rules.length (zl4 W l al)∧Below wb w V'):=zaa (fun V' O' h1 h2 h3=>by
    rw[zje] at h1
    obtain⟨V9,h9⟩:=h1
    exact⟨⟨V9,(zbg h9).1,fun k hk=>(h3 k ((zbg h9).2 k hk)).elim (hVM k) (fun h=>by omega)⟩,hbW.trans (zah h2 hszW hVM)⟩)
   have HFin0:Hid (∀ (V':World) (O':Nat→Prop),zb8 O' V' wb G.rules.length (fun r=>zai (W r))→Fr (zaA G.rules.length wb V) W2 V'→(∀ k,O' k→zaA G.rules.length wb V k∨W2.heap.size≤k)→zhj wb V' wb G.rules.length W∧Below wb w V'):=zaa (fun V' O' h1 h2 h3=>by
    obtain⟨V9,h9⟩:=h1
    exact⟨⟨V9,(zbg h9).1,fun k hk=>(h3 k ((zbg h9).2 k hk)).elim (hVM k) (fun h=>by omega)⟩,hbW.trans (zah h2 hszW hVM)⟩)
   have HT:=zaa hV
   have HVl:=zaa hVl
   have HRow:=zaa (show W2.ownsRow 0 3 1 (.slice ta (zai (W l)).length tc) (zai (W l)).length (zal (zai (W l))) by rw[← hVl];exact(hV.rows l hl').1)
   have hlen:(zai (W l)).length≤300000:=by rw[zak];have:=hcl l;omega
   have hal64:(zai al).length≤64:=by rw[zak];exact hall
   have hlr:=hl'
   have hF0:Fr (zaA G.rules.length wb V) W2 W2:=zav _ _
   have hFF:Fr (fun _=>False) W2 W2:=zav _ _
   obtain⟨i3,hi3,hz30,hz31,hz32⟩:=zao zc0
   clear hgr hrr hpy hCy hTb hb hb2 hpb hbW hV hVl hgr2 hcl hal hpn
   by_cases hz:al.length=0
   ·have hal0:al=[]:=List.eq_nil_of_length_eq_zero hz
    subst hal0
    rw[zov] at HCy
    have e0:(zai ([]:List Nat)).length=0:=rfl
    rw[e0] at HAl
    generalize hFl:zai (W l)=Fl at *
    clear HFin
    go_wp2
    rw[← hW2]
    clear hW2
    generalize wr.heap.size=pb at *
    refine wp_region_held_drew (S:=(fun W:World=>W.cell? ⟨pb,0,none⟩=some (.int .i64 (l:Int))∧W.cell? ⟨pb,1,none⟩=some (.slice rr prt.length rrc))) (by kernel_rfl) (uh HS _ hF0) (fun hH_=>?_)
    refine zac (i:=0) (dst:=some 29) (v:=?_) rfl rfl (by kernel_rfl) (by kernel_rfl) (by kernel_rfl) (fun _ _ _ h=>h) (Or.inl ⟨by rfl,?_⟩) hH_ ?_
    rotate_left
    ·intro w hSw;obtain⟨k0,k1⟩:=hSw;go_simp;try (with_reducible rfl)
    simp only[Act.put,zsA,zsB,zsC]
    refine zac (i:=1) (dst:=some 30) (v:=?_) rfl rfl (by kernel_rfl) (by kernel_rfl) (by kernel_rfl) (fun _ _ _ h=>h) (Or.inl ⟨by rfl,?_⟩) hH_ ?_
    rotate_left
    ·intro w hSw;obtain⟨k0,k1⟩:=hSw;go_simp;try (with_reducible rfl)
    simp only[Act.put,zsA,zsB,zsC]
    refine zac (i:=2) (dst:=some 31) (v:=?_) rfl rfl (by kernel_rfl) (by kernel_rfl) (by kernel_rfl) (fun _ _ _ h=>h) (Or.inl ⟨by rfl,?_⟩) hH_ ?_
    rotate_left
    ·intro w hSw;obtain⟨k0,k1⟩:=hSw;go_simp;try (with_reducible rfl)
    simp only[Act.put,zsA,zsB,zsC]
    refine zac (i:=3) (dst:=some 32) (v:=?_) rfl rfl (by kernel_rfl) (by kernel_rfl) (by kernel_rfl) (fun _ _ _ h=>h) (Or.inl ⟨by rfl,?_⟩) hH_ ?_
    rotate_left
    ·intro w hSw;obtain⟨k0,k1⟩:=hSw;go_simp;try (with_reducible rfl)
    simp only[Act.put,zsA,zsB,zsC]
    refine zac (i:=4) (dst:=some 33) (v:=?_) rfl rfl (by kernel_rfl) (by kernel_rfl) (by kernel_rfl) (fun _ _ _ h=>h) (Or.inl ⟨by rfl,?_⟩) hH_ ?_
    rotate_left
    ·intro w hSw;obtain⟨k0,k1⟩:=hSw;go_simp;try (with_reducible rfl)
    simp only[Act.put,zsA,zsB,zsC]
    refine zac (i:=5) (dst:=some 34) (v:=?_) rfl rfl (by kernel_rfl) (by kernel_rfl) (by kernel_rfl) (fun _ _ _ h=>h) (Or.inl ⟨by rfl,?_⟩) hH_ ?_
    rotate_left
    ·intro w hSw;obtain⟨k0,k1⟩:=hSw;go_simp;try (with_reducible rfl)
    simp only[Act.put,zsA,zsB,zsC]
    refine zac (i:=6) (dst:=some 35) (v:=?_) rfl rfl (by kernel_rfl) (by kernel_rfl) (by kernel_rfl) (fun _ _ _ h=>h) (Or.inl ⟨by rfl,?_⟩) hH_ ?_
    rotate_left
    ·intro w hSw;obtain⟨k0,k1⟩:=hSw;go_simp;try (with_reducible rfl)
    simp only[Act.put,zsA,zsB,zsC]
    refine zac (i:=8) (dst:=some 37) (v:=?_) rfl rfl (by kernel_rfl) (by kernel_rfl) (by kernel_rfl) (fun _ _ _ h=>h) (Or.inl ⟨by rfl,?_⟩) hH_ ?_
    rotate_left
    ·intro w hSw;obtain⟨k0,k1⟩:=hSw;go_simp;try (with_reducible rfl)
    simp only[Act.put,zsA,zsB,zsC]
    refine zac (i:=9) (dst:=some 38) (v:=?_) rfl rfl (by kernel_rfl) (by kernel_rfl) (by kernel_rfl) (fun _ _ _ h=>h) (Or.inl ⟨by rfl,?_⟩) hH_ ?_
    rotate_left
    ·intro w hSw;obtain⟨k0,k1⟩:=hSw;go_simp;try (with_reducible rfl)
    simp only[Act.put,zsA,zsB,zsC]
    refine zac (i:=10) (dst:=some 39) (v:=?_) rfl rfl (by kernel_rfl) (by kernel_rfl) (by kernel_rfl) (fun _ _ _ h=>h) (Or.inl ⟨by rfl,?_⟩) hH_ ?_
    rotate_left
    ·intro w hSw;obtain⟨k0,k1⟩:=hSw;go_simp;try (with_reducible rfl)
    simp only[Act.put,zsA,zsB,zsC]
    refine wpAnyH_ready (rs:=[7,11]) (by kernel_rfl) (by simp) ?_
    refine AllReadyH.cons rfl (fun K hK=>?_) (AllReadyH.cons rfl (fun K hK=>?_) AllReadyH.nil)
    ·go_simp
     refine hK.out _ _ (uh HS _ hF0) (fun hH_=>?_)
     clear hK K
     refine wpAnyH_ready (rs:=[11]) (by kernel_rfl) (by simp) ?_
     refine AllReadyH.cons rfl (fun K hK=>?_) AllReadyH.nil
     go_simp
     go_at_call 88
     refine(uh HAl W2.drew hFF).mono ?_
     rintro e W3 ⟨v3,rfl,ho3,hb3⟩
     have hb3:Below W2.heap.size W2 W3:=⟨hb3.os,hb3.tape,hb3.output,hb3.size,hb3.block⟩
     obtain⟨qa9,qc,hv3⟩:=zad ho3
     subst hv3
     clear ho3
     go_wp2_with fail
     refine hK.out _ _ (uh HS _ (za1 hb3)) (fun hH_=>?_)
     clear hK K
     refine wpAnyH_ready (rs:=[12]) (by kernel_rfl) (by simp) ?_
     refine AllReadyH.cons rfl (fun K hK=>?_) AllReadyH.nil
     have hF3:Fr (zaA G.rules.length wb V) W2 W3:=za1 hb3
     have ow:=zaK (zas (uh HRow) hb3) (Nat.le_refl _)
     refine zds rfl (.tmp 36) (.tmp 40) 27 rfl 0 3 i3 1 Tryz.underlying27 hi3 (.slice ta Fl.length tc) Fl.length (zal Fl) (by simp[Act.eval]) ow qa9 qc (by simp[Act.eval]) ?_
     go_simp
     refine hK.out _ _ (uh HS _ hF3) (fun hH_=>?_)
     clear hK K
     refine zac (i:=13) (dst:=some 42) (v:=?_) rfl rfl (by kernel_rfl) (by kernel_rfl) (by kernel_rfl) (fun _ _ _ h=>h) (Or.inl ⟨by rfl,?_⟩) hH_ ?_
     rotate_left
     ·intro w hSw;obtain⟨k0,k1⟩:=hSw;go_simp;try (with_reducible rfl)
     simp only[Act.put,zsA,zsB,zsC]
     refine wpAnyH_ready (rs:=[14]) (by kernel_rfl) (by simp) ?_
     refine AllReadyH.cons rfl (fun K hK=>?_) AllReadyH.nil
     have hcz:W3.cell? ⟨wb,l,none⟩=some (.slice ta Fl.length tc):=(hb3.cell (p:=⟨wb,l,none⟩) ((uh HT).lt _ (uh HT).own)).trans tcl
     have hfz:W3.frozen? ⟨wb,l,none⟩=false:=((uh HT).row.of_block (hb3.block _ ((uh HT).lt _ (uh HT).own))).frozen l
     go_simp
     have hF7:Fr (zaA G.rules.length wb V) W2 (W3.setCell ⟨wb,l,none⟩ (.slice ta Fl.length tc)):=zaz hF3 (.inl rfl) _
     refine hK.out _ _ (uh HS _ hF7) (fun hH_=>?_)
     clear hK K
     refine wpAnyH_done (by kernel_rfl) ?_ _
     have HF7:=zaa hF7
     have HT7:=zaa (show zb8 (zaA G.rules.length wb V) (W3.setCell ⟨wb,l,none⟩ (.slice ta Fl.length tc)) wb G.rules.length (fun r=>zai (W r)) by rw[Wk.set_same hcz];exact⟨V,zdY (uh HT) (za1 (O:=fun _=>False) hb3) (fun _ _ h=>h)⟩)
     clear ow hF7 hfz hcz hH_
     have h9:=uh HFin0 _ _ (uh HT7) (uh HF7) (fun k hk=>.inl hk)
     have H1:=zaa h9.1;have H2:=zaa h9.2
     clear h9 HT7 HF7
     go_wp2
     go_roundw
     case rel=>exact⟨k+1,W,by go_num,by omega,uh HCy,uh H1,uh H2⟩
     case measure=>simp[intOf];omega
    ·go_simp
     go_at_call 88
     refine(uh HAl W2.drew hFF).mono ?_
     rintro e W3 ⟨v3,rfl,ho3,hb3⟩
     have hb3:Below W2.heap.size W2 W3:=⟨hb3.os,hb3.tape,hb3.output,hb3.size,hb3.block⟩
     obtain⟨qa9,qc,hv3⟩:=zad ho3
     subst hv3
     clear ho3
     go_wp2_with fail
     refine hK.out _ _ (uh HS _ (za1 hb3)) (fun hH_=>?_)
     clear hK K
     refine wpAnyH_ready (rs:=[7]) (by kernel_rfl) (by simp) ?_
     refine AllReadyH.cons rfl (fun K hK=>?_) AllReadyH.nil
     have tcl2:W3.cell? ⟨wb,l,none⟩=some (.slice ta Fl.length tc):=(hb3.cell (p:=⟨wb,l,none⟩) ((uh HT).lt _ (uh HT).own)).trans tcl
     go_simp
     refine hK.out _ _ (uh HS _ (za1 hb3)) (fun hH_=>?_)
     clear hK K
     refine wpAnyH_ready (rs:=[12]) (by kernel_rfl) (by simp) ?_
     refine AllReadyH.cons rfl (fun K hK=>?_) AllReadyH.nil
     have hF3:Fr (zaA G.rules.length wb V) W2 W3:=za1 hb3
     have ow:=zaK (zas (uh HRow) hb3) (Nat.le_refl _)
     refine zds rfl (.tmp 36) (.tmp 40) 27 rfl 0 3 i3 1 Tryz.underlying27 hi3 (.slice ta Fl.length tc) Fl.length (zal Fl) (by simp[Act.eval]) ow qa9 qc (by simp[Act.eval]) ?_
     go_simp
     refine hK.out _ _ (uh HS _ hF3) (fun hH_=>?_)
     clear hK K
     refine zac (i:=13) (dst:=some 42) (v:=?_) rfl rfl (by kernel_rfl) (by kernel_rfl) (by kernel_rfl) (fun _ _ _ h=>h) (Or.inl ⟨by rfl,?_⟩) hH_ ?_
     rotate_left
     ·intro w hSw;obtain⟨k0,k1⟩:=hSw;go_simp;try (with_reducible rfl)
     simp only[Act.put,zsA,zsB,zsC]
     refine wpAnyH_ready (rs:=[14]) (by kernel_rfl) (by simp) ?_
     refine AllReadyH.cons rfl (fun K hK=>?_) AllReadyH.nil
     have hcz:W3.cell? ⟨wb,l,none⟩=some (.slice ta Fl.length tc):=(hb3.cell (p:=⟨wb,l,none⟩) ((uh HT).lt _ (uh HT).own)).trans tcl
     have hfz:W3.frozen? ⟨wb,l,none⟩=false:=((uh HT).row.of_block (hb3.block _ ((uh HT).lt _ (uh HT).own))).frozen l
     go_simp
     have hF7:Fr (zaA G.rules.length wb V) W2 (W3.setCell ⟨wb,l,none⟩ (.slice ta Fl.length tc)):=zaz hF3 (.inl rfl) _
     refine hK.out _ _ (uh HS _ hF7) (fun hH_=>?_)
     clear hK K
     refine wpAnyH_done (by kernel_rfl) ?_ _
     have HF7:=zaa hF7
     have HT7:=zaa (show zb8 (zaA G.rules.length wb V) (W3.setCell ⟨wb,l,none⟩ (.slice ta Fl.length tc)) wb G.rules.length (fun r=>zai (W r)) by rw[Wk.set_same hcz];exact⟨V,zdY (uh HT) (za1 (O:=fun _=>False) hb3) (fun _ _ h=>h)⟩)
     clear ow hF7 hfz hcz hH_
     have h9:=uh HFin0 _ _ (uh HT7) (uh HF7) (fun k hk=>.inl hk)
     have H1:=zaa h9.1;have H2:=zaa h9.2
     clear h9 HT7 HF7
     go_wp2
     go_roundw
     case rel=>exact⟨k+1,W,by go_num,by omega,uh HCy,uh H1,uh H2⟩
     case measure=>simp[intOf];omega
   ·have hpos:0<(zai al).length:=by rw[zak];omega
    generalize hAl:zai al=al' at *
    generalize hFl:zai (W l)=Fl at *
    clear HFin0
    go_wp2
    rw[← hW2]
    clear hW2
    generalize wr.heap.size=pb at *
    refine wp_region_held_drew (S:=(fun W:World=>W.cell? ⟨pb,0,none⟩=some (.int .i64 (l:Int))∧W.cell? ⟨pb,1,none⟩=some (.slice rr prt.length rrc))) (by kernel_rfl) (uh HS _ hF0) (fun hH_=>?_)
    refine zac (i:=0) (dst:=some 29) (v:=?_) rfl rfl (by kernel_rfl) (by kernel_rfl) (by kernel_rfl) (fun _ _ _ h=>h) (Or.inl ⟨by rfl,?_⟩) hH_ ?_
    rotate_left
    ·intro w hSw;obtain⟨k0,k1⟩:=hSw;go_simp;try (with_reducible rfl)
    simp only[Act.put,zsA,zsB,zsC]
    refine zac (i:=1) (dst:=some 30) (v:=?_) rfl rfl (by kernel_rfl) (by kernel_rfl) (by kernel_rfl) (fun _ _ _ h=>h) (Or.inl ⟨by rfl,?_⟩) hH_ ?_
    rotate_left
    ·intro w hSw;obtain⟨k0,k1⟩:=hSw;go_simp;try (with_reducible rfl)
    simp only[Act.put,zsA,zsB,zsC]
    refine zac (i:=2) (dst:=some 31) (v:=?_) rfl rfl (by kernel_rfl) (by kernel_rfl) (by kernel_rfl) (fun _ _ _ h=>h) (Or.inl ⟨by rfl,?_⟩) hH_ ?_
    rotate_left
    ·intro w hSw;obtain⟨k0,k1⟩:=hSw;go_simp;try (with_reducible rfl)
    simp only[Act.put,zsA,zsB,zsC]
    refine zac (i:=3) (dst:=some 32) (v:=?_) rfl rfl (by kernel_rfl) (by kernel_rfl) (by kernel_rfl) (fun _ _ _ h=>h) (Or.inl ⟨by rfl,?_⟩) hH_ ?_
    rotate_left
    ·intro w hSw;obtain⟨k0,k1⟩:=hSw;go_simp;try (with_reducible rfl)
    simp only[Act.put,zsA,zsB,zsC]
    refine zac (i:=4) (dst:=some 33) (v:=?_) rfl rfl (by kernel_rfl) (by kernel_rfl) (by kernel_rfl) (fun _ _ _ h=>h) (Or.inl ⟨by rfl,?_⟩) hH_ ?_
    rotate_left
    ·intro w hSw;obtain⟨k0,k1⟩:=hSw;go_simp;try (with_reducible rfl)
    simp only[Act.put,zsA,zsB,zsC]
    refine zac (i:=5) (dst:=some 34) (v:=?_) rfl rfl (by kernel_rfl) (by kernel_rfl) (by kernel_rfl) (fun _ _ _ h=>h) (Or.inl ⟨by rfl,?_⟩) hH_ ?_
    rotate_left
    ·intro w hSw;obtain⟨k0,k1⟩:=hSw;go_simp;try (with_reducible rfl)
    simp only[Act.put,zsA,zsB,zsC]
    refine zac (i:=6) (dst:=some 35) (v:=?_) rfl rfl (by kernel_rfl) (by kernel_rfl) (by kernel_rfl) (fun _ _ _ h=>h) (Or.inl ⟨by rfl,?_⟩) hH_ ?_
    rotate_left
    ·intro w hSw;obtain⟨k0,k1⟩:=hSw;go_simp;try (with_reducible rfl)
    simp only[Act.put,zsA,zsB,zsC]
    refine zac (i:=8) (dst:=some 37) (v:=?_) rfl rfl (by kernel_rfl) (by kernel_rfl) (by kernel_rfl) (fun _ _ _ h=>h) (Or.inl ⟨by rfl,?_⟩) hH_ ?_
    rotate_left
    ·intro w hSw;obtain⟨k0,k1⟩:=hSw;go_simp;try (with_reducible rfl)
    simp only[Act.put,zsA,zsB,zsC]
    refine zac (i:=9) (dst:=some 38) (v:=?_) rfl rfl (by kernel_rfl) (by kernel_rfl) (by kernel_rfl) (fun _ _ _ h=>h) (Or.inl ⟨by rfl,?_⟩) hH_ ?_
    rotate_left
    ·intro w hSw;obtain⟨k0,k1⟩:=hSw;go_simp;try (with_reducible rfl)
    simp only[Act.put,zsA,zsB,zsC]
    refine zac (i:=10) (dst:=some 39) (v:=?_) rfl rfl (by kernel_rfl) (by kernel_rfl) (by kernel_rfl) (fun _ _ _ h=>h) (Or.inl ⟨by rfl,?_⟩) hH_ ?_
    rotate_left
    ·intro w hSw;obtain⟨k0,k1⟩:=hSw;go_simp;try (with_reducible rfl)
    simp only[Act.put,zsA,zsB,zsC]
    refine wpAnyH_ready (rs:=[7,11]) (by kernel_rfl) (by simp) ?_
    refine AllReadyH.cons rfl (fun K hK=>?_) (AllReadyH.cons rfl (fun K hK=>?_) AllReadyH.nil)
    ·go_simp
     refine hK.out _ _ (uh HS _ hF0) (fun hH_=>?_)
     clear hK K
     refine wpAnyH_ready (rs:=[11]) (by kernel_rfl) (by simp) ?_
     refine AllReadyH.cons rfl (fun K hK=>?_) AllReadyH.nil
     go_simp
     go_at_call 88
     refine(uh HAl W2.drew hFF).mono ?_
     rintro e W3 ⟨v3,rfl,ho3,hb3⟩
     have hb3:Below W2.heap.size W2 W3:=⟨hb3.os,hb3.tape,hb3.output,hb3.size,hb3.block⟩
     obtain⟨q,qc,hv3,-⟩:=Wk.own_pos ho3 hpos
     subst hv3
     have Hnw:=zaa (show ∀ j u,(zal al')[j]? = some u→W3.cell? ((⟨q,0,none⟩:Addr).add j)=some u from fun j u hu=>ho3.cells rfl j u hu)
     clear ho3
     go_wp2_with fail
     refine hK.out _ _ (uh HS _ (za1 hb3)) (fun hH_=>?_)
     clear hK K
     refine wpAnyH_ready (rs:=[12]) (by kernel_rfl) (by simp) ?_
     refine AllReadyH.cons rfl (fun K hK=>?_) AllReadyH.nil
     have ow:=zaK (zas (uh HRow) hb3) (Nat.le_refl _)
     refine step_append_lies _ rfl (.tmp 36) (.tmp 40) 27 rfl 0 3 i3 (.int .i64 0) 1 8 Tryz.underlying27 hi3 hz30 hz31 hz32 rfl (by decide) (.slice ta Fl.length tc) Fl.length (zal Fl) (by simp[Act.eval]) ow ⟨q,0,none⟩ al'.length qc (zal al') (by simp[Act.eval]) (by rw[zbl,Nat.mul_one]) (uh Hnw) (zfL _) hpos (by unfold maxLen;omega) (by omega) (Nat.zero_le _) _ rfl ?_
     intro g cap W6 ho6 hg6 hw6 hlt6
     have hg6:W3.grownBy W6 (Value.ownBlock (.slice ta Fl.length tc)):=⟨hg6.os,hg6.tape,hg6.output,hg6.size,hg6.block⟩
     rw[← uh HVl] at hg6 hw6
     have ho6:W6.ownsRow 0 3 1 (.slice (some ⟨g,0,none⟩) (Fl ++ al').length cap) (Fl ++ al').length (zal (Fl ++ al')):=by rw[zfM,List.length_append];exact ho6
     obtain⟨hT7,hF7⟩:=zcg (uh HT) hlr hb3 rfl ho6 hg6 hw6 hlt6
     have hF3:Fr (zaA G.rules.length wb V) W2 W3:=za1 hb3
     have hF6:Fr (zaA G.rules.length wb V) W2 W6:=⟨Nat.le_trans hF3.1 hg6.size,fun j hj ho=>(hg6.block j (Nat.lt_of_lt_of_le hj hF3.1) (fun e=>ho (((uh HT).rows _ hlr).2 j e.symm))).trans (hF3.2.1 j hj ho),hg6.os.trans hF3.2.2.1,hg6.tape.trans hF3.2.2.2.1,hg6.output.trans hF3.2.2.2.2⟩
     go_simp
     refine hK.out _ _ (uh HS _ hF6) (fun hH_=>?_)
     clear hK K
     refine zac (i:=13) (dst:=some 42) (v:=?_) rfl rfl (by kernel_rfl) (by kernel_rfl) (by kernel_rfl) (fun _ _ _ h=>h) (Or.inl ⟨by rfl,?_⟩) hH_ ?_
     rotate_left
     ·intro w hSw;obtain⟨k0,k1⟩:=hSw;go_simp;try (with_reducible rfl)
     simp only[Act.put,zsA,zsB,zsC]
     refine wpAnyH_ready (rs:=[14]) (by kernel_rfl) (by simp) ?_
     refine AllReadyH.cons rfl (fun K hK=>?_) AllReadyH.nil
     have hfz:W6.frozen? ⟨wb,l,none⟩=false:=(zba (uh HT) hlr hb3 hg6)
     have hcz:=zby (uh HT) hlr hb3 hg6
     rw[uh HVl] at hcz
     go_simp
     have hlen6:(Fl ++ al').length=Fl.length+al'.length:=by simp
     rw[hlen6] at hT7 hF7
     refine hK.out _ _ (uh HS _ hF7) (fun hH_=>?_)
     clear hK K
     refine wpAnyH_done (by kernel_rfl) ?_ _
     have HT7:=zaa hT7;have HF7:=zaa hF7
     clear ow hT7 hF7 hF6 ho6 hg6 hw6 hlt6 hfz hcz hlen6 hH_
     have h9:=uh HFin _ _ (uh HT7) (uh HF7) (fun k hk=>hk.imp id (fun h=>h.1))
     have H1:=zaa h9.1;have H2:=zaa h9.2
     clear h9 HT7 HF7
     go_wp2
     go_roundw
     case rel=>exact⟨k+1,zl4 W l al,by go_num,by omega,uh HCy,uh H1,uh H2⟩
     case measure=>simp[intOf];omega
    ·go_simp
     go_at_call 88
     refine(uh HAl W2.drew hFF).mono ?_
     rintro e W3 ⟨v3,rfl,ho3,hb3⟩
     have hb3:Below W2.heap.size W2 W3:=⟨hb3.os,hb3.tape,hb3.output,hb3.size,hb3.block⟩
     obtain⟨q,qc,hv3,-⟩:=Wk.own_pos ho3 hpos
     subst hv3
     have Hnw:=zaa (show ∀ j u,(zal al')[j]? = some u→W3.cell? ((⟨q,0,none⟩:Addr).add j)=some u from fun j u hu=>ho3.cells rfl j u hu)
     clear ho3
     go_wp2_with fail
     refine hK.out _ _ (uh HS _ (za1 hb3)) (fun hH_=>?_)
     clear hK K
     refine wpAnyH_ready (rs:=[7]) (by kernel_rfl) (by simp) ?_
     refine AllReadyH.cons rfl (fun K hK=>?_) AllReadyH.nil
     have tcl2:W3.cell? ⟨wb,l,none⟩=some (.slice ta Fl.length tc):=(hb3.cell (p:=⟨wb,l,none⟩) ((uh HT).lt _ (uh HT).own)).trans tcl
     go_simp
     refine hK.out _ _ (uh HS _ (za1 hb3)) (fun hH_=>?_)
     clear hK K
     refine wpAnyH_ready (rs:=[12]) (by kernel_rfl) (by simp) ?_
     refine AllReadyH.cons rfl (fun K hK=>?_) AllReadyH.nil
     have ow:=zaK (zas (uh HRow) hb3) (Nat.le_refl _)
     refine step_append_lies _ rfl (.tmp 36) (.tmp 40) 27 rfl 0 3 i3 (.int .i64 0) 1 8 Tryz.underlying27 hi3 hz30 hz31 hz32 rfl (by decide) (.slice ta Fl.length tc) Fl.length (zal Fl) (by simp[Act.eval]) ow ⟨q,0,none⟩ al'.length qc (zal al') (by simp[Act.eval]) (by rw[zbl,Nat.mul_one]) (uh Hnw) (zfL _) hpos (by unfold maxLen;omega) (by omega) (Nat.zero_le _) _ rfl ?_
     intro g cap W6 ho6 hg6 hw6 hlt6
     have hg6:W3.grownBy W6 (Value.ownBlock (.slice ta Fl.length tc)):=⟨hg6.os,hg6.tape,hg6.output,hg6.size,hg6.block⟩
     rw[← uh HVl] at hg6 hw6
     have ho6:W6.ownsRow 0 3 1 (.slice (some ⟨g,0,none⟩) (Fl ++ al').length cap) (Fl ++ al').length (zal (Fl ++ al')):=by rw[zfM,List.length_append];exact ho6
     obtain⟨hT7,hF7⟩:=zcg (uh HT) hlr hb3 rfl ho6 hg6 hw6 hlt6
     have hF3:Fr (zaA G.rules.length wb V) W2 W3:=za1 hb3
     have hF6:Fr (zaA G.rules.length wb V) W2 W6:=⟨Nat.le_trans hF3.1 hg6.size,fun j hj ho=>(hg6.block j (Nat.lt_of_lt_of_le hj hF3.1) (fun e=>ho (((uh HT).rows _ hlr).2 j e.symm))).trans (hF3.2.1 j hj ho),hg6.os.trans hF3.2.2.1,hg6.tape.trans hF3.2.2.2.1,hg6.output.trans hF3.2.2.2.2⟩
     go_simp
     refine hK.out _ _ (uh HS _ hF6) (fun hH_=>?_)
     clear hK K
     refine zac (i:=13) (dst:=some 42) (v:=?_) rfl rfl (by kernel_rfl) (by kernel_rfl) (by kernel_rfl) (fun _ _ _ h=>h) (Or.inl ⟨by rfl,?_⟩) hH_ ?_
     rotate_left
     ·intro w hSw;obtain⟨k0,k1⟩:=hSw;go_simp;try (with_reducible rfl)
     simp only[Act.put,zsA,zsB,zsC]
     refine wpAnyH_ready (rs:=[14]) (by kernel_rfl) (by simp) ?_
     refine AllReadyH.cons rfl (fun K hK=>?_) AllReadyH.nil
     have hfz:W6.frozen? ⟨wb,l,none⟩=false:=(zba (uh HT) hlr hb3 hg6)
     have hcz:=zby (uh HT) hlr hb3 hg6
     rw[uh HVl] at hcz
     go_simp
     have hlen6:(Fl ++ al').length=Fl.length+al'.length:=by simp
     rw[hlen6] at hT7 hF7
     refine hK.out _ _ (uh HS _ hF7) (fun hH_=>?_)
     clear hK K
     refine wpAnyH_done (by kernel_rfl) ?_ _
     have HT7:=zaa hT7;have HF7:=zaa hF7
     clear ow hT7 hF7 hF6 ho6 hg6 hw6 hlt6 hfz hcz hlen6 hH_
     have h9:=uh HFin _ _ (uh HT7) (uh HF7) (fun k hk=>hk.imp id (fun h=>h.1))
     have H1:=zaa h9.1;have H2:=zaa h9.2
     clear h9 HT7 HF7
     go_wp2
     go_roundw
     case rel=>exact⟨k+1,zl4 W l al,by go_num,by omega,uh HCy,uh H1,uh H2⟩
     case measure=>simp[intOf];omega
  ·obtain rfl:k=G.prods.length:=by omega
   obtain⟨hway,-,-⟩:=zho hTb
   have hWb:∀ r,r<G.rules.length→∀ y,y ∈ W r→y<G.rules.length:=fun r _ y hy=>by
    obtain⟨q,-,hq,-,h1⟩:=(hCy.w r y).1 hy
    obtain⟨j,hj,h2,h3,-⟩:=alone_mem.1 h1
    have h4:(rhs G q).getD j 0<((G.nk+G.nr:Nat):Int):=(hG.py _ (zag hq) _ (za5 hj)).2
    unfold Gm.nr at h4
    omega
   have HTh:=zaa (zfv W G.rules.length wb G.rules.length hr2 hWb (fun r=>by have:=hCy.l r;omega) wr hway)
   have Hen:=zaa (fun r=>cy_end hCy r)
   have Hb:=zaa hb
   clear hCy hTb hb hway hWb
   go_wp2_with fail
   refine(uh HTh).mono ?_
   rintro e w9 ⟨b9,rfl,hr9,hl9,hb9⟩
   have Hr9:=zaa (hr9.congr (g:=fun r=>.bool (zop G r r)) (fun r _=>by rw[uh Hen r]))
   have Hb9:=zaa ((uh Hb).trans (zab hb9 hszw))
   clear hr9 hb9
   go_wp2
   go_ret
   exact⟨b9,rfl,uh Hr9,by omega,by rw[hwb];exact uh Hb9⟩
end Go.Proofs.YtagohbpbgjelaaaGreatDoor

/- What follows rules: which kinds and which rules stand where they end, from a place of a production on. -/
import Derived.Test.YtagohbpbgjelaaaGreatDoorGX
import Derived.Test.YtagohbpbgjelaaaGreatDoorA5
import Derived.Test.YtagohbpbgjelaaaGreatDoorK1
import Derived.Test.YtagohbpbgjelaaaGreatDoorHV
namespace Go.Proofs.YtagohbpbgjelaaaGreatDoor
open Go.RowKit

def FlS (G:Gm) (q i r:Nat) (m:Int):Prop:=q<G.prods.length∧atF G (lhs G q)=true∧i<(rhs G q).length∧(G.nk:Int)≤(rhs G q).getD i 0∧((rhs G q).getD i 0 - G.nk).toNat=r∧0≤m∧begB G.nk (nullF G) (fstF G) ((rhs G q).drop (i+1)) m.toNat=true
def FlW (G:Gm) (q i r y:Nat):Prop:=q<G.prods.length∧atF G (lhs G q)=true∧i<(rhs G q).length∧(G.nk:Int)≤(rhs G q).getD i 0∧((rhs G q).getD i 0 - G.nk).toNat=r∧emptyB G.nk (nullF G) ((rhs G q).drop (i+1))=true∧lhs G q=y
structure FlI (G:Gm) (P:Nat→Nat→Prop) (n:Nat) (C:Nat→Int→Bool) (W:Nat→List Nat):Prop where
 c:∀ r m,C r m=true↔(r=G.start.toNat∧m=0)∨∃ q i,P q i∧FlS G q i r m
 w:∀ r y,y ∈ W r↔∃ q i,P q i∧FlW G q i r y
 l:∀ r,(W r).length≤n
def Dn (k j q i:Nat):Prop:=q<k∨q=k∧j≤i
theorem fl_mono {G:Gm} {P P':Nat→Nat→Prop} {n n':Nat} {C:Nat→Int→Bool} {W:Nat→List Nat} (h:FlI G P n C W) (hn:n≤n') (hp:∀ q i,i<(rhs G q).length→atF G (lhs G q)=true→(P q i↔P' q i)):FlI G P' n' C W:=by
 refine⟨fun r m=>?_,fun r y=>?_,fun r=>Nat.le_trans (h.l r) hn⟩
 · rw[h.c r m]
   refine or_congr Iff.rfl ⟨?_,?_⟩
   · rintro⟨q,i,h1,h2⟩;exact⟨q,i,(hp q i h2.2.2.1 h2.2.1).1 h1,h2⟩
   · rintro⟨q,i,h1,h2⟩;exact⟨q,i,(hp q i h2.2.2.1 h2.2.1).2 h1,h2⟩
 · rw[h.w r y]
   constructor
   · rintro⟨q,i,h1,h2⟩;exact⟨q,i,(hp q i h2.2.2.1 h2.2.1).1 h1,h2⟩
   · rintro⟨q,i,h1,h2⟩;exact⟨q,i,(hp q i h2.2.2.1 h2.2.1).2 h1,h2⟩
theorem fl_start (G:Gm):FlI G (fun q _=>q<0) 0 (upC (fun _ _=>false) G.start.toNat (addF (fun _=>false) 0)) (fun _=>[]):=by
 refine⟨fun r m=>?_,fun r y=>⟨fun h=>(by cases h),fun⟨q,i,h,_⟩=>(by omega)⟩,fun r=>by simp⟩
 constructor
 · intro h
   by_cases e:r=G.start.toNat
   · subst e
     rw[upC_self] at h
     unfold addF at h
     by_cases e2:m=0
     · exact .inl ⟨rfl,e2⟩
     · rw[if_neg e2] at h;cases h
   · rw[upC_ne e] at h;cases h
 · rintro(⟨rfl,rfl⟩ | ⟨q,i,h,_⟩)
   · rw[upC_self];rfl
   · omega
theorem fl_open {G:Gm} {k n:Nat} {C:Nat→Int→Bool} {W:Nat→List Nat} (h:FlI G (fun q _=>q<k) n C W):FlI G (Dn k (rhs G k).length) n C W :=
 fl_mono h (Nat.le_refl _) (fun q i hi _=>⟨.inl,fun h1=>h1.elim id (fun⟨e,h2⟩=>by subst e;omega)⟩)
theorem fl_shut {G:Gm} {k n n':Nat} {C:Nat→Int→Bool} {W:Nat→List Nat} (h:FlI G (Dn k 0) n C W) (hn:n≤n'):FlI G (fun q _=>q<k+1) n' C W :=
 fl_mono h hn (fun q i _ _=>⟨fun h1=>by unfold Dn at h1;omega,fun h1=>by unfold Dn;omega⟩)
theorem fl_pass {G:Gm} {k n n':Nat} {C:Nat→Int→Bool} {W:Nat→List Nat} (h:FlI G (fun q _=>q<k) n C W) (hn:n≤n') (hr:atF G (lhs G k)=false):FlI G (fun q _=>q<k+1) n' C W :=
 fl_mono h hn (fun q i _ ha=>⟨fun h1=>by omega,fun h1=>by
   by_cases e:q=k
   · subst e;rw[hr] at ha;cases ha
   · omega⟩)
theorem dn_pred {k j q i:Nat}:Dn k j q i↔Dn k (j+1) q i∨q=k∧i=j:=by unfold Dn;omega
def BeI (G:Gm) (row:List Int) (j:Nat) (D:Int→Bool) (em:Bool):Prop:=(∀ m,D m=true↔0≤m∧begB G.nk (nullF G) (fstF G) (row.drop j) m.toNat=true)∧em=emptyB G.nk (nullF G) (row.drop j)
theorem be_end (G:Gm) (row:List Int):BeI G row row.length (fun _=>false) true:=by
 refine⟨fun m=>?_,?_⟩
 · rw[List.drop_length];simp[begB]
 · rw[List.drop_length];rfl
theorem drop_at {row:List Int} {j:Nat} (hj:j<row.length):row.drop j=row.getD j 0::row.drop (j+1):=by
 rw[List.drop_eq_getElem_cons hj,List.getD_eq_getElem?_getD,List.getElem?_eq_getElem hj];rfl
theorem beg_kind {G:Gm} {x:Int} (h0:0≤x) (hx:x<(G.nk:Int)) (k:Nat):begB G.nk (nullF G) (fstF G) [x] k=true↔x=k:=by
 rw[begB_iff]
 constructor
 · rintro⟨i,hi,-,h⟩
   have:i=0:=by simp at hi;omega
   subst this
   rcases h with ⟨-,h⟩ | ⟨h,-⟩
   · have h:k=x.toNat:=h
     omega
   · have h:(G.nk:Int)≤x:=h
     omega
 · intro e
   refine⟨0,by simp,by simp[emptyB],.inl ⟨hx,?_⟩⟩
   show k=x.toNat
   omega
theorem beg_rule {G:Gm} {x:Int} (hx:(G.nk:Int)≤x) (k:Nat):begB G.nk (nullF G) (fstF G) [x] k=true↔Fst G (x - G.nk).toNat k:=by
 rw[begB_iff,← fstF_is]
 constructor
 · rintro⟨i,hi,-,h⟩
   have:i=0:=by simp at hi;omega
   subst this
   rcases h with ⟨h,-⟩ | ⟨-,h⟩
   · have h:x<(G.nk:Int):=h
     omega
   · exact h
 · intro h
   exact⟨0,by simp,by simp[emptyB],.inr ⟨hx,h⟩⟩
theorem be_kind {G:Gm} {row:List Int} {j:Nat} (hj:j<row.length) (h0:0≤row.getD j 0) (hx:row.getD j 0<(G.nk:Int)):BeI G row j (addF (fun _=>false) (row.getD j 0)) false:=by
 have he:emptyB G.nk (nullF G) [row.getD j 0]=false:=by
   unfold emptyB
   simp only[List.all_cons,List.all_nil,Bool.and_true,Bool.and_eq_false_iff,decide_eq_false_iff_not]
   exact .inl (by omega)
 refine⟨fun m=>?_,?_⟩
 · rw[drop_at hj,begB_cons,he]
   simp only[Bool.false_and,Bool.or_false]
   rw[beg_kind h0 hx]
   unfold addF
   by_cases e:m=row.getD j 0
   · rw[if_pos e];exact⟨fun _=>⟨by omega,by omega⟩,fun _=>rfl⟩
   · rw[if_neg e];exact⟨fun h=>(by cases h),fun⟨h1,h2⟩=>by omega⟩
 · rw[drop_at hj,emptyB_cons,he];rfl
theorem be_rule {G:Gm} {row:List Int} {j:Nat} {D F:Int→Bool} {em:Bool} (h:BeI G row (j+1) D em) (hj:j<row.length) (hx:(G.nk:Int)≤row.getD j 0) (hn:nullF G (row.getD j 0 - G.nk).toNat=true) (hF:∀ m,F m=true↔0≤m∧Fst G (row.getD j 0 - G.nk).toNat m.toNat):BeI G row j (orF D F) em:=by
 have he:emptyB G.nk (nullF G) [row.getD j 0]=true:=by
   unfold emptyB
   simp only[List.all_cons,List.all_nil,Bool.and_true,Bool.and_eq_true,decide_eq_true_eq]
   exact⟨hx,hn⟩
 refine⟨fun m=>?_,?_⟩
 · rw[drop_at hj,begB_cons,he]
   simp only[Bool.true_and,Bool.or_eq_true]
   rw[beg_rule hx]
   unfold orF
   rw[Bool.or_eq_true,h.1 m,hF m]
   constructor
   · rintro(⟨a,b⟩ | ⟨a,b⟩)
     · exact⟨a,.inr b⟩
     · exact⟨a,.inl b⟩
   · rintro⟨a,b | b⟩
     · exact .inr ⟨a,b⟩
     · exact .inl ⟨a,b⟩
 · rw[drop_at hj,emptyB_cons,he,h.2];rfl
theorem be_firm {G:Gm} {row:List Int} {j:Nat} {F:Int→Bool} (hj:j<row.length) (hx:(G.nk:Int)≤row.getD j 0) (hn:nullF G (row.getD j 0 - G.nk).toNat=false) (hF:∀ m,F m=true↔0≤m∧Fst G (row.getD j 0 - G.nk).toNat m.toNat):BeI G row j (orF (fun _=>false) F) false:=by
 have he:emptyB G.nk (nullF G) [row.getD j 0]=false:=by
   unfold emptyB
   simp only[List.all_cons,List.all_nil,Bool.and_true,Bool.and_eq_false_iff,decide_eq_false_iff_not]
   exact .inr hn
 refine⟨fun m=>?_,?_⟩
 · rw[drop_at hj,begB_cons,he]
   simp only[Bool.false_and,Bool.or_false]
   rw[beg_rule hx]
   unfold orF
   rw[Bool.false_or]
   exact hF m
 · rw[drop_at hj,emptyB_cons,he];rfl
theorem fl_kind {G:Gm} {k j n:Nat} {C:Nat→Int→Bool} {W:Nat→List Nat} (h:FlI G (Dn k (j+1)) n C W) (hx:(rhs G k).getD j 0<(G.nk:Int)):FlI G (Dn k j) n C W:=by
 refine⟨fun r m=>?_,fun r y=>?_,h.l⟩
 · rw[h.c r m]
   refine or_congr Iff.rfl ⟨?_,?_⟩
   · rintro⟨q,i,h1,h2⟩;exact⟨q,i,dn_pred.2 (.inl h1),h2⟩
   · rintro⟨q,i,h1,h2⟩
     rcases dn_pred.1 h1 with h1 | ⟨rfl,rfl⟩
     · exact⟨q,i,h1,h2⟩
     · have:=h2.2.2.2.1;omega
 · rw[h.w r y]
   constructor
   · rintro⟨q,i,h1,h2⟩;exact⟨q,i,dn_pred.2 (.inl h1),h2⟩
   · rintro⟨q,i,h1,h2⟩
     rcases dn_pred.1 h1 with h1 | ⟨rfl,rfl⟩
     · exact⟨q,i,h1,h2⟩
     · have:=h2.2.2.2.1;omega
theorem fl_rule {G : Gm} {k j n : Nat} {C : Nat → Int → Bool} {W : Nat → List Nat} {D : Int → Bool} {em : Bool} (h : FlI G (Dn k (j + 1)) n C W) (hk : k < G.prods.length) (ha : atF G (lhs G k) = true) (hj : j < (rhs G k).length) (hx : (G.nk : Int) ≤ (rhs G k).getD j 0) (hD : BeI G (rhs G k) (j + 1) D em) {y : Nat} (hy : ((rhs G k).getD j 0 - G.nk).toNat = y) :
   FlI G (Dn k j) (n+1) (upC C y (orF (C y) D)) (if em then upW W y (lhs G k) else W):=by
 refine⟨fun r m=>?_,fun r z=>?_,fun r=>?_⟩
 · have key:upC C y (orF (C y) D) r m=true↔C r m=true∨FlS G k j r m:=by
     by_cases e:r=y
     · subst e
       rw[upC_self]
       unfold orF
       rw[Bool.or_eq_true,hD.1 m]
       refine or_congr Iff.rfl ⟨fun⟨h1,h2⟩=>⟨hk,ha,hj,hx,hy,h1,h2⟩,fun h1=>⟨h1.2.2.2.2.2.1,h1.2.2.2.2.2.2⟩⟩
     · rw[upC_ne e];exact⟨.inl,fun h1=>h1.elim id (fun h2=>absurd (h2.2.2.2.2.1.symm.trans hy) e)⟩
   rw[key,h.c r m]
   constructor
   · rintro((h1 | ⟨q,i,h1,h2⟩) | h2)
     · exact .inl h1
     · exact .inr ⟨q,i,dn_pred.2 (.inl h1),h2⟩
     · exact .inr ⟨k,j,dn_pred.2 (.inr ⟨rfl,rfl⟩),h2⟩
   · rintro(h1 | ⟨q,i,h1,h2⟩)
     · exact .inl (.inl h1)
     · rcases dn_pred.1 h1 with h1 | ⟨rfl,rfl⟩
       · exact .inl (.inr ⟨q,i,h1,h2⟩)
       · exact .inr h2
 · have key:z ∈ (if em then upW W y (lhs G k) else W) r↔z ∈ W r∨FlW G k j r z:=by
     have he:=hD.2
     cases em with
     | true =>
       rw[if_pos rfl,upW_mem]
       refine or_congr Iff.rfl ⟨fun⟨h1,h2⟩=>⟨hk,ha,hj,hx,hy.trans h1.symm,he.symm,h2.symm⟩,fun h1=>⟨h1.2.2.2.2.1.symm.trans hy,h1.2.2.2.2.2.2.symm⟩⟩
     | false =>
       rw[if_neg (by simp)]
       exact⟨.inl,fun h1=>h1.elim id (fun h2=>by have:=h2.2.2.2.2.2.1;rw[← he] at this;cases this)⟩
   rw[key,h.w r z]
   constructor
   · rintro(⟨q,i,h1,h2⟩ | h2)
     · exact⟨q,i,dn_pred.2 (.inl h1),h2⟩
     · exact⟨k,j,dn_pred.2 (.inr ⟨rfl,rfl⟩),h2⟩
   · rintro⟨q,i,h1,h2⟩
     rcases dn_pred.1 h1 with h1 | ⟨rfl,rfl⟩
     · exact .inl ⟨q,i,h1,h2⟩
     · exact .inr h2
 · have:=h.l r
   cases em with
   | true=>rw[if_pos rfl];have:=upW_len W y (lhs G k) r;omega
   | false=>rw[if_neg (by simp)];omega
theorem beg_lt {G:Gm} (hG:GOk G) {row:List Int} (hr:symsIn (G.nk+G.nr) row) {k:Nat} (h:begB G.nk (nullF G) (fstF G) row k=true):k<G.nk:=by
 obtain⟨i,hi,-,h⟩:=begB_iff.1 h
 have:=hr _ (mem_getD hi)
 rcases h with ⟨h1,h2⟩ | ⟨-,h2⟩
 · omega
 · exact fst_lt hG ((fstF_is _ _ _).1 h2)
theorem fl_end {G:Gm} (hG:GOk G) {n:Nat} {C:Nat→Int→Bool} {W:Nat→List Nat} (h:FlI G (fun q _=>q<G.prods.length) n C W) (r:Nat) (m:Int):Uw W C r m↔0≤m∧Flw G r m.toNat:=by
 constructor
 · rintro⟨y,h1,h2⟩
   induction h1 with
   | refl x =>
     rcases(h.c _ _).1 h2 with ⟨rfl,rfl⟩ | ⟨q,i,-,hq,ha,hi,hx,rfl,h0,hb⟩
     · exact⟨Int.le_refl _,.start⟩
     · exact⟨h0,.first _ (mem_getP hq) ha i hi hx _ (beg_lt hG (fun z hz=>hG.py _ (mem_getP hq) z (List.mem_of_mem_drop hz)) hb) hb⟩
   | step x y z hy _ ih =>
     obtain⟨q,i,-,hq,ha,hi,hx,rfl,he,rfl⟩:=(h.w _ _).1 hy
     obtain⟨h3,h4⟩:=ih h2
     exact⟨h3,.behind _ (mem_getP hq) ha i hi hx he _ h4⟩
 · rintro⟨h0,h1⟩
   obtain⟨k,rfl⟩:=Int.eq_ofNat_of_zero_le h0
   rw[Int.toNat_natCast] at h1
   clear h0
   induction h1 with
   | start=>exact⟨_,.refl _,(h.c _ _).2 (.inl ⟨rfl,rfl⟩)⟩
   | first p hp hr i hi hx k hk hb =>
     obtain⟨q,hq,rfl⟩:=ex_getP hp
     exact⟨_,.refl _,(h.c _ _).2 (.inr ⟨q,i,hq,hq,hr,hi,hx,rfl,by omega,by rw[Int.toNat_natCast];exact hb⟩)⟩
   | behind p hp hr i hi hx he k _ ih =>
     obtain⟨q,hq,rfl⟩:=ex_getP hp
     obtain⟨y,h3,h4⟩:=ih
     exact⟨y,.step _ _ _ ((h.w _ _).2 ⟨q,i,hq,hq,hr,hi,hx,rfl,he,rfl⟩) h3,h4⟩
end Go.Proofs.YtagohbpbgjelaaaGreatDoor

namespace Go.Proofs.YtagohbpbgjelaaaGreatDoor
open Go.RowKit

set_option maxHeartbeats 2000000 in
set_option maxRecDepth 100000 in
theorem leasts_any (G : Gm) (hG : GOk G) (ka pa ra qa : Option Addr) (kc pc rc qc gb ob ub : Nat) (M : Nat) (w : World) (hM : M ≤ w.heap.size) (hg : GrAt M w G ka kc pa pc ra rc qa qc gb ob ub) :
   Calls Tryz.prog 66 #[.pointer (some ⟨gb,0,none⟩)] w fun e w'=>∃ (b:Nat) (L:Nat→Int),e=.returned (.slice (some ⟨b,0,none⟩) G.rules.length G.rules.length)∧w'.rowIs b 3 G.rules.length (fun r=>.int .i64 (L r))∧LeastIs G L∧w.heap.size≤b∧Below w.heap.size w w':=by
 have c2:w.cell? ⟨gb,2,none⟩=some (.slice ra G.rules.length rc):=by unfold World.cell?;rw[hg.box];rfl
 have c3:w.cell? ⟨gb,3,none⟩=some (.slice qa G.prods.length qc):=by unfold World.cell?;rw[hg.box];rfl
 have hgl:gb<w.heap.size:=by have:=hg.lt;omega
 have hr1:=hG.r1;have hr2:=hG.r2;have hps:=hG.ps
 unfold Gm.nr at hr1 hr2
 have hb1:Below w.heap.size w (w.alloc (.cells #[.int .i64 (-1)] 3)):=(Below.refl _ _).alloc (Nat.le_refl _) _
 have c2a:=(hb1.cell (p:=⟨gb,2,none⟩) hgl).trans c2
 have Hg:=hide hg
 clear hg
 go_enter Tryz.func66,Tryz.ntmps66
 go_wp2_with fail
 have hs1:(w.alloc (.cells #[.int .i64 (-1)] 3)).heap.size=w.heap.size+1:=by simp
 refine(repeat_any w.heap.size G.rules.length (-1) hr1 hr2 _ (Go.Deep.blk_alloc_new _ _)).mono ?_
 rintro e w2 ⟨bb,rfl,hbb,hbl,hb2⟩
 have hbw2:Below w.heap.size w w2:=hb1.trans (below_le hb2 (by omega))
 have hs2:=hb2.size
 have hbb2:bb<w2.heap.size:=(Array.getElem?_eq_some_iff.1 hbb).1
 have d3:=(hbw2.cell (p:=⟨gb,3,none⟩) hgl).trans c3
 have HRc:Hid (∀ W,Below w2.heap.size w2 W→Calls Tryz.prog 87 #[.pointer (some ⟨gb,0,none⟩)] W fun e w'=>∃ (b:Nat) (ml:List Int),e=.returned (.slice (some ⟨b,0,none⟩) G.prods.length G.prods.length)∧ml.length=G.prods.length∧(∀ q,q<G.prods.length→atZ ml q=((rlN G q).length:Int))∧w'.ownsRow W.heap.size 3 1 (.slice (some ⟨b,0,none⟩) G.prods.length G.prods.length) ml.length (vints ml)∧Below W.heap.size W w'):=hide (fun W hW=>ruleCounts_any G hG ka pa ra qa kc pc rc qc gb ob ub M W (by have:=hW.size;omega) (gr_kept (uh Hg) (below_le (hbw2.trans (below_le hW (by omega))) hM)))
 have hmk:=fun w=>run_make_row' (P:=Tryz.prog) 27 3 (.int .i64 0) 8 Tryz.underlying27 info3 rfl .i64 .i64 G.prods.length (by omega) (by omega) w
 have Hbw2:=hide hbw2;have Hbb:=hide hbb
 have HS:Hid (∀ W,Below w2.heap.size w2 W→W.cell? ⟨gb,3,none⟩=some (.slice qa G.prods.length qc)∧True):=hide (fun W hW=>⟨(hW.cell (p:=⟨gb,3,none⟩) (by show gb<_;omega)).trans d3,trivial⟩)
 have hS:Below w2.heap.size w2 w2:=Below.refl _ _
 have hS2:Below w2.heap.size w2 (w2.alloc (.cells (madeCells #[.int .i64 0] G.prods.length) 3)):=(Below.refl _ _).alloc (Nat.le_refl _) _
 clear hb1 hb2 c2 c3 c2a hbw2 hbb
 go_wp2_with fail
 go_cut [4,5] (fun v4 v5 W=>∃ mb sb ml,v4=.slice (some ⟨mb,0,none⟩) G.prods.length G.prods.length∧v5=.slice (some ⟨sb,0,none⟩) G.prods.length G.prods.length∧ml.length=G.prods.length∧(∀ q,q<G.prods.length→atZ ml q=((rlN G q).length:Int))∧RcM w2 W G.prods.length mb sb ml)
 case first =>
   go_region_held3 (fun W:World=>W.cell? ⟨gb,3,none⟩=some (.slice qa G.prods.length qc)∧True)
     (first | exact uh HS _ hS | exact uh HS _ hS.drew | exact uh HS _ hS2 | exact uh HS _ hS2.drew | exact uh HS _ (hS.alloc hS.size _) | exact uh HS _ (hS.drew.alloc hS.size _) | fail)
     (first
       | (go_at_call 87;first
           | (refine(uh HRc w2.drew hS.drew).mono ?_;rintro e W3 ⟨mb,ml,rfl,hml,hat,hom,hb3⟩;have hb3:Below w2.heap.size w2 W3:=⟨hb3.os,hb3.tape,hb3.output,hb3.size,hb3.block⟩;have HRm:=hide (rcm_a (w:=w2) hom hb3);have hS:=hb3;clear hom hb3)
           | (refine(uh HRc (w2.alloc (.cells (madeCells #[.int .i64 0] G.prods.length) 3)).drew hS2.drew).mono ?_;rintro e W3 ⟨mb,ml,rfl,hml,hat,hom,hb3⟩;have hb3:Below (w2.alloc (.cells (madeCells #[.int .i64 0] G.prods.length) 3)).heap.size (w2.alloc (.cells (madeCells #[.int .i64 0] G.prods.length) 3)) W3:=⟨hb3.os,hb3.tape,hb3.output,hb3.size,hb3.block⟩;have HRm:=hide (rcm_b (w:=w2) hom hb3);have hS:=(uh HRm).bl;clear hom hb3)
           | fail)
       | fail)
   all_goals
     go_wp2_with fail
     go_meet
     first
       | exact⟨mb,_,ml,rfl,rfl,hml,hat,uh HRm⟩
 case rest =>
   obtain⟨mb,sb,ml,rfl,rfl,hml,hat,hR⟩:=hcut
   have HNL:=hide (newList_any wc)
   have hbc:Below w.heap.size w wc:=(uh Hbw2).trans (below_le hR.bl (uh Hbw2).size)
   have Hbc:=hide hbc;have HR:=hide hR;have Hml:=hide hml;have Hat:=hide hat
   have hszc:=hbc.size
   have f3:=(hbc.cell (p:=⟨gb,3,none⟩) hgl).trans (show w.cell? ⟨gb,3,none⟩=some (.slice qa G.prods.length qc) by unfold World.cell?;rw[(uh Hg).box];rfl)
   have hal:Below wc.heap.size wc (wc.alloc (.cells #[.slice none 0 0,.map none] 191)):=(Below.refl _ _).alloc (Nat.le_refl _) _
   have f3a:=(hal.cell (p:=⟨gb,3,none⟩) (by show gb<_;omega)).trans f3
   have hLs:LsAt w.heap.size w (wc.alloc (.cells #[.slice none 0 0,.map none] 191)) G.rules.length G.prods.length bb mb sb wc.heap.size (fun _ => -1) (fun _=>0) ml (· = wc.heap.size) (fun _=>none):=by
     have hsR:=hR.bl.size
     have hbbc:wc.heap[bb]? = _:=(hR.bl.block _ hbb2).trans (uh Hbb)
     have hm1:=(hR.ms.lt mb rfl)
     have hs1':=hR.sm.lt
     refine⟨(rowIs_rep hbbc).of_block (hal.block _ (Array.getElem?_eq_some_iff.1 hbbc).1),own_base (own_blkB hR.ms hal) (by omega),hml,hR.sm.of_block (hal.block _ hs1'),⟨[],?_,fun i h1 h2=>by simp at h2,fun r v=>⟨fun h=>(by cases h),fun⟨t,h,_⟩=>(by cases h)⟩⟩,by omega,by omega,by omega,by omega,by have:=hR.lo;omega,hR.ne,fun k hk=>by rw[hk];exact hszc,by omega,by omega,by have:=hR.lo;omega,hbc.trans (below_le hal hszc)⟩
     exact Wk.lst_new wc
   have HLs:=hide hLs
   clear hml hat hR hbc hLs HRc HS hS hS2 hmk
   go_wp2_with fail
   refine(uh HNL).mono ?_
   rintro e w5 ⟨rfl,rfl⟩
   have hs5:w.heap.size≤(wc.alloc (.cells #[.slice none 0 0,.map none] 191)).heap.size:=by have:=hal.size;omega
   clear hal HNL f3
   generalize htb:wc.heap.size=tb at *
   generalize wc.alloc (.cells #[.slice none 0 0,.map none] 191)=w5 at *
   go_wp2
   go_loopw [41] (fun x V=>∃ (k:Nat) (H:Nat→Option Int) (O:Nat→Prop),x=.int .i64 k∧k≤G.prods.length∧LsI G (fun _ => -1) (fun q=>(rlN G q).length) (kcN G) H (remK G k)∧LsAt w.heap.size w V G.rules.length G.prods.length bb mb sb tb (fun _ => -1) (fun q=>if q<k then kcN G q else 0) ml O H) (fun x _=>G.prods.length - (intOf x).toNat)
   case atStart=>exact⟨0,fun _=>none,_,rfl,Nat.zero_le _,by unfold remK;rw[List.drop_zero];exact kinv_start,by simpa using uh HLs⟩
   case round =>
     clear HLs
     obtain⟨k,H,O,rfl,hk,hI,hA⟩:=hrel
     have hszv:w.heap.size≤wr.heap.size:=hA.bl.size
     by_cases hlt:k<G.prods.length
     · have hlt':(k:Int)<G.prods.length:=by omega
       have hgr:=gr_kept (uh Hg) (below_le hA.bl hM)
       obtain⟨b,off,rfl,hbB,rr,rrc,x3,x4,x5,x6,n6,c6,hrr,-,q0,q1,q2,q3,q4,q5,q6⟩:=qrow_at hgr.gin.prods hlt
       have hpl:=hG.pl _ (mem_getP hlt)
       have hpr:=hG.pr _ (mem_getP hlt)
       have hkc:kcN G k=((G.prods.getD k pd0).right.length:Int) - (rlN G k).length:=rfl
       have hnn:=kcN_nn G k
       have hIn:=ls_first hlt hI (by omega)
       unfold lfQ at hIn
       generalize G.prods.getD k pd0=p at *
       obtain⟨pl,prt,plv,pac⟩:=p
       simp only at q0 q1 q2 hpl hpr hkc hIn
       obtain⟨l,rfl⟩:∃ l:Nat,pl=(l:Int):=⟨pl.toNat,by omega⟩
       rw[Int.toNat_natCast] at hIn
       have hl':l<G.rules.length:=by have:=hpl.2;unfold Gm.nr at this;omega
       obtain⟨W2,hW2⟩:∃ W2,W2=wr.alloc (.cells #[.int .i64 (l:Int),.slice rr prt.length rrc,.int .i64 plv,.int .i64 x3,.int .i64 x4,.string x5,.slice x6 n6 c6] 89):=⟨_,rfl⟩
       have hb2:Below wr.heap.size wr W2:=by rw[hW2];exact(Below.refl _ _).alloc (Nat.le_refl _) _
       have hpb:W2.heap[wr.heap.size]? = some (.cells #[.int .i64 (l:Int),.slice rr prt.length rrc,.int .i64 plv,.int .i64 x3,.int .i64 x4,.string x5,.slice x6 n6 c6] 89):=by rw[hW2];exact Go.Deep.blk_alloc_new _ _
       have hA2:=lsAt_below hA hszv hb2
       have p1:W2.cell? ⟨wr.heap.size,1,none⟩=some (.slice rr prt.length rrc):=by unfold World.cell?;rw[hpb];rfl
       have p0:W2.cell? ⟨wr.heap.size,0,none⟩=some (.int .i64 (l:Int)):=by unfold World.cell?;rw[hpb];rfl
       have mk:W2.cell? ⟨mb,k,none⟩=some (.int .i64 ((rlN G k).length:Int)):=by
         have hms:=hA2.ms
         rw[hA2.mln] at hms
         rw[hms.cellAt k (by omega)]
         have emk:ml.getD k 0=((rlN G k).length:Int):=uh Hat k hlt
         unfold vints
         rw[List.getElem?_map,List.getElem?_eq_getElem (by rw[hA2.mln];exact hlt),← emk,List.getD_eq_getElem?_getD,List.getElem?_eq_getElem (by rw[hA2.mln];exact hlt)]
         rfl
       have sk:=hA2.sm.cell hlt
       have fk:=hA2.sm.frozen k
       have hA3:=lsAt_sm hA2 k (kcN G k)
       have esu:upZ (fun q=>if q<k then kcN G q else 0) k (kcN G k)=fun q=>if q<k+1 then kcN G q else 0:=by
         funext q
         unfold upZ
         by_cases e:q=k
         · subst e;rw[if_pos rfl,if_pos (by omega)]
         · rw[if_neg e]
           show (if q<k then kcN G q else 0)=_
           by_cases e2:q<k
           · rw[if_pos e2,if_pos (by omega)]
           · rw[if_neg e2,if_neg (by omega)]
       rw[esu] at hA3
       have hnsb:¬ mb=sb:=hA2.n3
       have hpn:¬ wr.heap.size=sb:=by have:=hA.sm.lt;omega
       have HA3:=hide hA3;have HI:=hide hIn;have Hpb:=hide hpb
       have hs2z:w.heap.size≤W2.heap.size:=by have:=hb2.size;omega
       generalize hrl:(rlN G k).length=rl at *
       generalize hkn:kcN G k=kn at *
       have hwr:IntKind.i64.wrap ((prt.length:Int) - rl)=kn:=by rw[IntKind.wrap_i64];omega
       have hkn64:kn≤64:=by omega
       clear hA hI hgr hA2 hA3 hIn hb2 hpb esu hkc
       have sk:W2.cell? ⟨sb,k,none⟩=some (.int .i64 0):=by simpa using sk
       go_wp2_with fail
       rw[← hW2]
       clear hW2
       generalize hpbe:wr.heap.size=pb at *
       go_region
       have HA4:=hide (lsAt_below (uh HA3) (by simp;omega) (Below.refl _ _).drew)
       have p0':(W2.setCell ⟨sb,k,none⟩ (.int .i64 kn)).drew.cell? ⟨pb,0,none⟩=some (.int .i64 (l:Int)):=(World.cell?_of_block (w:=W2) (heap_other W2 hpn)).trans p0
       have mk':(W2.setCell ⟨sb,k,none⟩ (.int .i64 kn)).drew.cell? ⟨mb,k,none⟩=some (.int .i64 (rl:Int)):=(World.cell?_of_block (w:=W2) (heap_other W2 hnsb)).trans mk
       have sk':(W2.setCell ⟨sb,k,none⟩ (.int .i64 kn)).drew.cell? ⟨sb,k,none⟩=some (.int .i64 kn):=by
         have h1:=(uh HA4).sm.cell hlt
         simpa [hkn] using h1
       have hsz4:w.heap.size≤(W2.setCell ⟨sb,k,none⟩ (.int .i64 kn)).drew.heap.size:=by simp;exact hs2z
       generalize (W2.setCell ⟨sb,k,none⟩ (.int .i64 kn)).drew=W4 at *
       clear HA3 p0 p1 mk sk fk
       by_cases hz:rl=0
       · have hz':((rl:Nat):Int)=0:=by omega
         rw[if_pos hz] at HI
         have HP:Hid (∀ V,Below W4.heap.size W4 V→Calls Tryz.prog 107 #[.pointer (some ⟨tb,0,none⟩),.int .i64 (l:Nat),.int .i64 kn] V fun e V'=>(∃ b,e=.returned (.tuple #[.bool b,.int .i64 0]))∧∃ O',LsAt w.heap.size w V' G.rules.length G.prods.length bb mb sb tb (fun _ => -1) (fun q=>if q<k+1 then kcN G q else 0) ml O' (pushH H l kn)):=hide (fun V hV=>by
           have h4:=lsAt_below (uh HA4) hsz4 hV
           have hsv:=hV.size
           refine(push_h tb O H l kn (by omega) (by omega) V h4.td).mono ?_
           rintro e V' ⟨he,hf,O',ht,hO'⟩
           exact⟨he,O',lsAt_push h4 (by omega) hf ht hO'⟩)
         clear hwr
         subst hz
         go_wp2_with fail
         go_region_with (go_at_call 107;refine(uh HP _ (by first | exact Below.refl _ _ | exact(Below.refl _ _).drew)).mono ?_;rintro e V5 ⟨⟨b5,rfl⟩,O5,h5⟩;have H5:=hide h5;clear h5)
         all_goals
           go_wp2
           go_roundw
           case rel=>exact⟨k+1,_,O5,by go_num,by omega,uh HI,lsAt_below (uh H5) (uh H5).bl.size (by first | exact Below.refl _ _ | exact(Below.refl _ _).drew)⟩
           case measure=>simp[intOf];omega
       · have hz':¬ ((rl:Nat):Int)=0:=by omega
         rw[if_neg hz] at HI
         clear hwr
         go_wp2
         go_roundw
         case rel=>exact⟨k+1,H,O,by go_num,by omega,uh HI,uh HA4⟩
         case measure=>simp[intOf];omega
     · obtain rfl:k=G.prods.length:=by omega
       rw[remK_end] at hI
       have hI0:LsI G (fun _ => -1) (atZ ml) (kcN G) H []:=⟨fun q hq=>(uh Hat q hq).trans (hI.miE q hq),hI.suE,hI.hp,hI.rd,hI.mo,hI.lg,hI.rm⟩
       have hA0:LsAt w.heap.size w wr G.rules.length G.prods.length bb mb sb tb (fun _ => -1) (kcN G) ml O H:=⟨hA.ls,hA.ms,hA.mln,hA.sm.congr (fun q hq=>by rw[if_pos hq]),hA.td,hA.o1,hA.o2,hA.o3,hA.n1,hA.n2,hA.n3,hA.ob,hA.b1,hA.b2,hA.b3,hA.bl⟩
       have HI0:=hide hI0;have HA0:=hide hA0
       clear hI hA hI0 hA0
       go_wp2
       go_loopw [9,10,11] (fun _ _ _ V=>∃ (L su:Nat→Int) (ml:List Int) (H:Nat→Option Int) (O:Nat→Prop),LsI G L (atZ ml) su H []∧LsAt w.heap.size w V G.rules.length G.prods.length bb mb sb tb L su ml O H) (fun _ _ _ V=>cntNeg (numW V bb) G.rules.length)
       case atStart=>exact⟨_,_,ml,H,O,uh HI0,uh HA0⟩
       case round =>
         clear HI0 HA0
         obtain⟨L,su,ml,H,O,hI,hA⟩:=hrel
         have hszv:w.heap.size≤wr.heap.size:=hA.bl.size
         have HPop:=hide (pop_h tb O H wr hA.td)
         have HI:=hide hI;have HA:=hide hA
         clear hI hA
         go_wp2_with fail
         refine(uh HPop).mono ?_
         rintro e w6 (⟨hH,rfl,rfl⟩ | ⟨r,v,hHr,hmin,rfl,hf6,ht6⟩)
         · have Hend:=hide (ls_end (uh HI) hH)
           have hnot:=run_not
           go_wp2
           go_ret
           exact⟨bb,L,rfl,(uh HA).ls,uh Hend,(uh HA).b1,(uh HA).bl⟩
         · obtain ⟨hLr, hv0, hv1, hI2⟩ := ls_pop (uh HI) hHr hmin
           have hA6:=lsAt_push (uh HA) hszv hf6 ht6 (fun k hk=>.inl hk)
           obtain⟨-,q9,hq9,hlq9,-⟩:=(uh HI).hp r v hHr
           have hrn:r<G.rules.length:=by
             have h1:=(hG.pl _ (mem_getP hq9)).2
             unfold lfQ at hlq9
             unfold Gm.nr at h1
             omega
           have hrn':(r:Int)<G.rules.length:=by omega
           have lc:=hA6.ls.cell hrn
           have lf:=hA6.ls.frozen r
           have hA7:=lsAt_ls hA6 r v
           have hsz7:w.heap.size≤(w6.setCell ⟨bb,r,none⟩ (.int .i64 v)).heap.size:=hA7.bl.size
           have hg7:=gr_kept (uh Hg) (below_le hA7.bl hM)
           obtain⟨Ou,htu,-⟩:=(uh Hg).uses
           obtain⟨xa,xc,tcu,hxn⟩:=tab_at htu hrn
           rw[useN_is] at tcu hxn
           rw[castL_len] at tcu
           have hub:ub<w.heap.size:=by obtain⟨V9,hV9⟩:=htu;exact hV9.lt _ hV9.own
           have u7:=(hA7.bl.cell (p:=⟨ub,r,none⟩) hub).trans tcu
           have g6:(w6.setCell ⟨bb,r,none⟩ (.int .i64 v)).cell? ⟨gb,6,none⟩=some (.slice (some ⟨ub,0,none⟩) G.rules.length G.rules.length):=by unfold World.cell?;rw[hg7.box];rfl
           have Hsu:=hide (fun q (hq:q<G.prods.length)=>ls_su hG (uh HI) hq)
           have hul:(useN G r).length≤300000:=by
             have h1:=useN_len hG r
             omega
           have Hlt:Hid (cntNeg (upZ L r v) G.rules.length<cntNeg L G.rules.length):=hide (cntNeg_lt _ (fun i _ hi=>by
             by_cases e:i=r
             · subst e;rw[upZ_self];exact hv0
             · rw[upZ_ne e];exact hi) r hrn hLr (by rw[upZ_self];exact hv0))
           have HLs:=hide ((uh HA).ls)
           have HA7:=hide hA7;have HI2:=hide hI2;have Hxn:=hide hxn
           clear hA6 hA7 hI2 hxn tcu htu hg7 ht6 hf6
           generalize hw7:w6.setCell ⟨bb,r,none⟩ (.int .i64 v)=W7 at *
           have hnot:=run_not
           go_wp2_with fail
           clear hw7 lc lf
           go_loopw [92] (fun x V=>∃ (i:Nat),x=.int .i64 i∧i≤(useN G r).length∧LsAt w.heap.size w V G.rules.length G.prods.length bb mb sb tb (upZ L r v) (fun q=>su q+v * (((useN G r).take i).count q:Nat)) ml O (upH H r none)) (fun x _=>(useN G r).length - (intOf x).toNat)
           case atStart=>exact⟨0,rfl,Nat.zero_le _,by simpa using uh HA7⟩
           case round =>
             clear HA7
             obtain⟨i,rfl,hi,hA⟩:=hrel
             have hszw:w.heap.size≤wr.heap.size:=hA.bl.size
             by_cases hil:i<(useN G r).length
             · have hil':(i:Int)<(useN G r).length:=by omega
               obtain⟨b9,o9,rfl,hb9,hc9⟩:=nrow_at (nrow_kept hA.bl (uh Hxn)) (k:=i) (by rw[castL_len];exact hil)
               rw[castL_get hil] at hc9
               have hqm:(useN G r).getD i 0 ∈ useN G r:=by rw[List.getD_eq_getElem?_getD,List.getElem?_eq_getElem hil];exact List.getElem_mem hil
               have hqn:=useN_lt hqm
               have etk:(useN G r).take (i+1)=(useN G r).take i ++ [(useN G r).getD i 0]:=by rw[List.take_add_one,List.getD_eq_getElem?_getD,List.getElem?_eq_getElem hil];rfl
               have hcnt:∀ j,((useN G r).take j).count ((useN G r).getD i 0)≤64:=fun j=>by
                 have h1:((useN G r).take j).count ((useN G r).getD i 0)≤(useN G r).count ((useN G r).getD i 0):=(List.take_sublist j _).count_le _
                 have h2:=useN_count (G:=G) (r:=r) hqn
                 have h3:(rlN G ((useN G r).getD i 0)).count r≤(rlN G ((useN G r).getD i 0)).length:=List.count_le_length
                 have h4:=rlN_len G ((useN G r).getD i 0)
                 have h5:=hG.pr _ (mem_getP hqn)
                 omega
               have hsu:=uh Hsu _ hqn
               have hA2:=lsAt_sm hA ((useN G r).getD i 0) (su ((useN G r).getD i 0)+v * (((useN G r).take i).count ((useN G r).getD i 0):Nat)+v)
               have esu:upZ (fun q=>su q+v * (((useN G r).take i).count q:Nat)) ((useN G r).getD i 0) (su ((useN G r).getD i 0)+v * (((useN G r).take i).count ((useN G r).getD i 0):Nat)+v)=fun q=>su q+v * (((useN G r).take (i+1)).count q:Nat):=by
                 funext q
                 unfold upZ
                 rw[etk,List.count_append]
                 by_cases e:q=(useN G r).getD i 0
                 · rw[if_pos e,← e]
                   simp
                   rw[Int.mul_add];omega
                 · rw[if_neg e]
                   have:List.count q [(useN G r).getD i 0]=0:=List.count_eq_zero.2 (by simpa using e)
                   rw[this];rfl
               rw[esu] at hA2
               have sc:=hA.sm.cell hqn
               have sf:=hA.sm.frozen ((useN G r).getD i 0)
               have h64:=hcnt i
               have hmul:v * (((useN G r).take i).count ((useN G r).getD i 0):Nat)≤65537 * 64:=by
                 have h1:v * (((useN G r).take i).count ((useN G r).getD i 0):Nat)≤65537 * (((useN G r).take i).count ((useN G r).getD i 0):Nat):=Int.mul_le_mul_of_nonneg_right hv1 (by omega)
                 omega
               have hmul0:0≤v * (((useN G r).take i).count ((useN G r).getD i 0):Nat):=Int.mul_nonneg hv0 (by omega)
               have HA2:=hide hA2
               clear hA hA2 esu etk hcnt hqm
               generalize (useN G r).getD i 0=q at *
               generalize hcc:su q+v * (((useN G r).take i).count q:Nat)=cc at *
               have hwr:IntKind.i64.wrap (cc+v)=cc+v:=by rw[IntKind.wrap_i64];omega
               have hqn':(q:Int)<G.prods.length:=by omega
               clear hcc hmul hmul0
               go_wp2
               go_roundw
               case rel=>exact⟨i+1,by go_num,by omega,uh HA2⟩
               case measure=>simp[intOf];omega
             · obtain rfl:i=(useN G r).length:=by omega
               rw[List.take_length] at hA
               have HA:=hide hA
               clear hA
               go_wp2_with fail
               have hbA:Below wr.heap.size wr (wr.alloc (.cells #[.int .i64 (r:Int)] 3)):=(Below.refl _ _).alloc (Nat.le_refl _) _
               have hAA:=lsAt_below (uh HA) hszw hbA
               have hszA:w.heap.size≤(wr.alloc (.cells #[.int .i64 (r:Int)] 3)).heap.size:=hAA.bl.size
               have hfn:NRow (wr.alloc (.cells #[.int .i64 (r:Int)] 3)).heap.size (wr.alloc (.cells #[.int .i64 (r:Int)] 3)) (some ⟨wr.heap.size,0,none⟩) (castL [r]):=.inr ⟨wr.heap.size,0,rfl,by simp,fun j hj=>by
                 have hj0:j=0:=by simp[castL] at hj;exact hj
                 subst hj0
                 unfold World.cell?
                 rw[show (wr.alloc (.cells #[.int .i64 (r:Int)] 3)).heap[wr.heap.size]? = _ from Go.Deep.blk_alloc_new _ _]
                 rfl⟩
               have hmlt:=((uh HA).ms.lt mb rfl).2
               have HRB:=hide (readyBy_any G hG ka pa ra qa kc pc rc qc gb ob ub M (some ⟨wr.heap.size,0,none⟩) 1 [r] (by simp) (by simp;exact hrn) (.slice (some ⟨mb,0,none⟩) G.prods.length G.prods.length) ml hAA.mln (ls_mi hG (uh HI) hAA.mln) _ (by omega) (gr_kept (uh Hg) (below_le hAA.bl hM)) hfn (own_base hAA.ms hM) (fun x hx h=>by
                 obtain rfl:(⟨wr.heap.size,0,none⟩:Addr)=x:=Option.some.inj hx
                 have e:mb=wr.heap.size:=by simpa [Value.ownBlock] using h
                 omega))
               refine(uh HRB).mono ?_
               rintro e w8 ⟨u8,rfl,hR8⟩
               obtain⟨ml8,ha8,hA8,hy8⟩:=lsAt_rdy hAA hszA hR8
               have efm:[r].flatMap (useN G)=useN G r:=by simp
               rw[efm] at ha8 hy8
               obtain⟨ga,gc,rfl⟩:=own_form hy8.own
               have hI8:=uh HI2
               rw[← ha8] at hI8
               have hRn:(dcR (useN G r) (atZ ml)).length≤G.prods.length:=dcR_len _ _ (fun q hq=>useN_lt hq)
               generalize hL8:upZ L r v=L8 at *
               generalize (fun q=>su q+v * ((useN G r).count q:Nat))=su8 at *
               generalize dcR (useN G r) (atZ ml)=R at *
               generalize upH H r none=H8 at *
               have HA8:=hide hA8;have HI8:=hide hI8;have Hy8:=hide hy8
               rw[castL_len] at *
               clear HRB hfn hAA hR8 hA8 hI8 hy8 hbA HA HI2 Hsu ha8
               generalize hS8:(wr.alloc (.cells #[.int .i64 (r:Int)] 3)).heap.size=S8 at *
               go_wp2
               go_loopw [110] (fun x V=>∃ (j:Nat) (H9:Nat→Option Int) (O9:Nat→Prop),x=.int .i64 j∧j≤R.length∧LsI G L8 (atZ ml8) su8 H9 (R.drop j)∧LsAt w.heap.size w V G.rules.length G.prods.length bb mb sb tb L8 su8 ml8 O9 H9∧RyAt S8 V (.slice ga R.length gc) R O9) (fun x _=>R.length - (intOf x).toNat)
               case atStart=>exact⟨0,H8,O,rfl,Nat.zero_le _,by simpa using uh HI8,uh HA8,uh Hy8⟩
               case round =>
                 clear HA8 HI8 Hy8
                 obtain⟨j,H9,O9,rfl,hj,hI,hA,hY⟩:=hrel
                 have hszx:w.heap.size≤wr.heap.size:=hA.bl.size
                 by_cases hjl:j<R.length
                 · have hjl':(j:Int)<R.length:=by omega
                   obtain⟨ga',gc',hv9,hnr⟩:=own_nrow hY.own
                   obtain⟨rfl,-,rfl⟩:=Value.slice.inj hv9
                   obtain⟨b9,o9,rfl,hb9,hc9⟩:=nrow_at hnr (k:=j) (by rw[castL_len];exact hjl)
                   rw[castL_get hjl] at hc9
                   have edr:R.drop j=R.getD j 0::R.drop (j+1):=by rw[List.drop_eq_getElem_cons hjl,List.getD_eq_getElem?_getD,List.getElem?_eq_getElem hjl];rfl
                   rw[edr] at hI
                   generalize R.getD j 0=q at *
                   obtain⟨hqn,-,-⟩:=hI.rm q (by simp)
                   have hqn':(q:Int)<G.prods.length:=by omega
                   have hsu:=ls_su hG hI hqn
                   have hgr:=gr_kept (uh Hg) (below_le hA.bl hM)
                   have c3:wr.cell? ⟨gb,3,none⟩=some (.slice qa G.prods.length qc):=by unfold World.cell?;rw[hgr.box];rfl
                   obtain⟨b,off,rfl,hbB,rr,rrc,x3,x4,x5,x6,n6,c6,hrr,-,q0,q1,q2,q3,q4,q5,q6⟩:=qrow_at hgr.gin.prods hqn
                   have hpl:=hG.pl _ (mem_getP hqn)
                   have elf:lfQ G q=(G.prods.getD q pd0).left.toNat:=rfl
                   obtain⟨l,hl⟩:∃ l:Nat,(G.prods.getD q pd0).left=(l:Int):=⟨(G.prods.getD q pd0).left.toNat,by omega⟩
                   rw[hl] at q0 hpl elf
                   rw[Int.toNat_natCast] at elf
                   have hl':l<G.rules.length:=by have:=hpl.2;unfold Gm.nr at this;omega
                   have hl'':(l:Int)<G.rules.length:=by omega
                   have lc:=hA.ls.cell hl'
                   have sc:=hA.sm.cell hqn
                   have hlg:=hI.lg l
                   have HA:=hide hA;have HI:=hide hI;have HY:=hide hY
                   clear hA hI hY hgr hnr q1 q2 q3 q4 q5 q6 hrr hpl hv9
                   by_cases hneg:L8 l = -1
                   · have hpu:=kinv_push (uh HI) (by rw[elf];omega)
                     rw[elf] at hpu
                     obtain⟨mw,hmw⟩:∃ mw,mw=min (su8 q) 65537:=⟨_,rfl⟩
                     rw[← hmw] at hpu
                     have hif:(if (65537:Int)<su8 q then 65537 else su8 q)=mw:=by rw[hmw];split <;> omega
                     have hmw0:0≤mw∧mw≤65537:=by omega
                     have HP:Hid (∀ V,Below wr.heap.size wr V→Calls Tryz.prog 107 #[.pointer (some ⟨tb,0,none⟩),.int .i64 (l:Nat),.int .i64 mw] V fun e V'=>(∃ b,e=.returned (.tuple #[.bool b,.int .i64 0]))∧∃ O',LsAt w.heap.size w V' G.rules.length G.prods.length bb mb sb tb L8 su8 ml8 O' (pushH H9 l mw)∧RyAt S8 V' (.slice (some ⟨b9,o9,none⟩) R.length gc) R O'):=hide (fun V hV=>by
                       have h4:=lsAt_below (uh HA) hszx hV
                       have hsv:=hV.size
                       have h5:=ryAt_below (uh HY) hV
                       refine(push_h tb O9 H9 l mw (by omega) (by omega) V h4.td).mono ?_
                       rintro e V' ⟨he,hf,O',ht,hO'⟩
                       exact⟨he,O',lsAt_push h4 (by omega) hf ht hO',ryAt_push h5 hf hO'⟩)
                     have Hpu:=hide hpu
                     clear hpu hlg hif
                     go_wp2_with fail
                     rw[← hmw]
                     clear hmw
                     refine(uh HP _ (Below.refl _ _)).mono ?_
                     rintro e V5 ⟨⟨b5,rfl⟩,O5,h5,hy5⟩
                     have H5:=hide h5;have Hy5:=hide hy5
                     clear h5 hy5 HP lc sc q0 c3 hc9
                     go_wp2
                     go_roundw
                     case rel=>exact⟨j+1,_,O5,by go_num,by omega,uh Hpu,uh H5,uh Hy5⟩
                     case measure=>simp[intOf];omega
                   · have hnn:0≤L8 l:=by omega
                     have hpa:=hide (kinv_pass (uh HI) (by rw[elf];exact hnn))
                     clear hlg
                     go_wp2
                     go_roundw
                     case rel=>exact⟨j+1,H9,O9,by go_num,by omega,uh hpa,uh HA,uh HY⟩
                     case measure=>simp[intOf];omega
                 · obtain rfl:j=R.length:=by omega
                   rw[List.drop_length] at hI
                   have Hrel:=hide (And.intro hI hA)
                   have Hme:Hid (cntNeg (numW wr bb) G.rules.length=cntNeg L8 G.rules.length):=hide (cntNeg_congr _ (fun r hr=>numW_is hA.ls r hr))
                   have Hmo:=hide (cntNeg_congr _ (fun r hr=>numW_is (uh HLs) r hr))
                   clear hI hA hY
                   go_wp2
                   go_roundw
                   case rel=>exact⟨L8,su8,ml8,H9,O9,(uh Hrel).1,(uh Hrel).2⟩
                   case measure=>rw[uh Hme,uh Hmo];exact uh Hlt
end Go.Proofs.YtagohbpbgjelaaaGreatDoor

namespace Go.Proofs.YtagohbpbgjelaaaGreatDoor
open Go.RowKit

set_option maxHeartbeats 2000000 in
set_option maxRecDepth 100000 in
theorem leastyes24:LeastYes 24:=fun G hc ka pa ra qa kc pc rc qc r hr w hin=>by
 have hG:=check_ok hc
 have hst:=gst_new (kc:=kc) (pc:=pc) (rc:=rc) (qc:=qc) (Nat.le_refl _) hin 26
 have hb1:Below w.heap.size w (w.alloc (.cells #[.slice ka G.kinds.length kc,.slice pa G.precs.length pc,.slice ra G.rules.length rc,.slice qa G.prods.length qc,.int .i64 G.start] 26)):=(Below.refl _ _).alloc (Nat.le_refl _) _
 have HM:=hide (mayBe_any G ka pa ra qa kc pc rc qc _ (gin_up hin hb1) (smG_ok hG))
 rw[hc] at HM
 have Hb1:=hide hb1;have Hst:=hide hst;have Hin:=hide hin
 have hnot:=run_not
 have hs1:(w.alloc (.cells #[.slice ka G.kinds.length kc,.slice pa G.precs.length pc,.slice ra G.rules.length rc,.slice qa G.prods.length qc,.int .i64 G.start] 26)).heap.size=w.heap.size+1:=by simp
 clear hst hb1 hin hc
 go_enter Tryz.func24,Tryz.ntmps24
 go_wp2_with fail
 generalize w.alloc (.cells #[.slice ka G.kinds.length kc,.slice pa G.precs.length pc,.slice ra G.rules.length rc,.slice qa G.prods.length qc,.int .i64 G.start] 26)=w1 at *
 refine(uh HM).mono ?_
 rintro e w2 ⟨rfl,hb2⟩
 have hs2:=hb2.size
 have hbw2:=(uh Hb1).trans (below_le hb2 (by omega))
 have hst2:=gst_kept (below_le hb2 (by omega)) (Nat.le_refl _) (uh Hst)
 have d0:=hst2.c0;have d1:=hst2.c1;have d2:=hst2.c2;have d3:=hst2.c3;have d4:=hst2.c4
 have HA:=hide (isRule_any ka pa ra qa G.kinds.length kc G.precs.length pc G.rules.length rc G.prods.length qc G.start (r:Int) w2)
 have hdec:decide (0≤(r:Int)∧(r:Int)<G.rules.length)=true:=decide_eq_true (by omega)
 rw[hdec] at HA
 have Hbw2:=hide hbw2
 have hs2w:w.heap.size+1≤w2.heap.size:=by omega
 clear hb2 hbw2 hst2 HM hdec
 go_wp2_with fail
 refine(uh HA).mono ?_
 rintro e w3 ⟨rfl,hb3⟩
 have hs3:=hb3.size
 have hbw3:=(uh Hbw2).trans (below_le hb3 (by omega))
 have e0:=(hb3.cell (p:=⟨w.heap.size,0,none⟩) (by show w.heap.size<_;omega)).trans d0
 have e1:=(hb3.cell (p:=⟨w.heap.size,1,none⟩) (by show w.heap.size<_;omega)).trans d1
 have e2:=(hb3.cell (p:=⟨w.heap.size,2,none⟩) (by show w.heap.size<_;omega)).trans d2
 have e3:=(hb3.cell (p:=⟨w.heap.size,3,none⟩) (by show w.heap.size<_;omega)).trans d3
 have e4:=(hb3.cell (p:=⟨w.heap.size,4,none⟩) (by show w.heap.size<_;omega)).trans d4
 have HNG:=hide (newGrammar_any G hG ka pa ra qa kc pc rc qc w3 (gin_up (uh Hin) hbw3))
 have Hbw3:=hide hbw3
 clear hb3 hbw3 d0 d1 d2 d3 d4 HA
 go_wp2_with fail
 refine(uh HNG).mono ?_
 rintro e w4 ⟨gb,ob,ub,rfl,hg4,hb4⟩
 have hs4:=hb4.size
 have HLE:=hide (leasts_any G hG ka pa ra qa kc pc rc qc gb ob ub w4.heap.size w4 (Nat.le_refl _) hg4)
 have Hbw4:=hide ((uh Hbw3).trans (below_le hb4 (by have:=(uh Hbw3).size;omega)))
 clear hg4 hb4 HNG e0 e1 e2 e3 e4
 go_wp2_with fail
 refine(uh HLE).mono ?_
 rintro e w5 ⟨b,L,rfl,hrow,hL,hbb,hb5⟩
 have Hbw5:=hide ((uh Hbw4).trans (below_le hb5 (uh Hbw4).size))
 have lc:=hrow.cell hr
 have hr':(r:Int)<G.rules.length:=by omega
 have HL:=hide hL
 have hlg:L r = -1∨0≤L r:=by
   rcases hL.1 r with h | h
   · exact .inl h
   · exact .inr h.1
 clear hb5 HLE hL hrow
 by_cases hneg:L r = -1
 · go_wp2
   refine bodyPost_ret (v:=.tuple #[.int .i64 0,.bool false,.int .i64 0]) ?zz9 rfl ⟨L,uh HL,by rw[hneg];rfl,uh Hbw5⟩
   case zz9=>simp[results,Tryz.results24,go_sem]
 · have hnn:0≤L r:=by omega
   have hmx:max (L r) 0=L r:=by omega
   have hde:decide (0≤L r)=true:=decide_eq_true hnn
   have Hend:Hid ((.tuple #[.int .i64 (max (L r) 0),.bool (decide (0≤L r)),.int .i64 0]:Value)=.tuple #[.int .i64 (L r),.bool true,.int .i64 0]):=hide (by rw[hmx,hde])
   clear hmx hde
   go_wp2
   refine bodyPost_ret (v:=.tuple #[.int .i64 (L r),.bool true,.int .i64 0]) ?zz9 rfl ⟨L,uh HL,by rw[uh Hend],uh Hbw5⟩
   case zz9=>simp[results,Tryz.results24,go_sem]
end Go.Proofs.YtagohbpbgjelaaaGreatDoor

namespace Go.Proofs.YtagohbpbgjelaaaGreatDoor
open Go.RowKit

set_option maxHeartbeats 2000000 in
set_option maxRecDepth 100000 in
theorem lookno9:LookNo 9:=fun G hc ka pa ra qa kc pc rc qc w hin hsm=>by
 obtain⟨w1,hw1⟩:∃ w1,w1=(w.alloc (.cells #[.slice ka G.kinds.length kc,.slice pa G.precs.length pc,.slice ra G.rules.length rc,.slice qa G.prods.length qc,.int .i64 G.start] 26)).alloc (.cells #[.slice none 0 0,.slice none 0 0,.slice none 0 0,.slice none 0 0,.slice none 0 0,.slice none 0 0] 31):=⟨_,rfl⟩
 obtain⟨hst,hb1,hs1,hbx⟩:=look_in kc pc rc qc (Nat.le_refl _) hin hw1
 have d0:=hst.c0;have d1:=hst.c1;have d2:=hst.c2;have d3:=hst.c3;have d4:=hst.c4
 have hC:=mayBe_any G ka pa ra qa kc pc rc qc w1 (gin_up hin hb1) hsm
 rw[hc] at hC
 have hnot:=run_not
 have HC:=hide hC
 have Hb1:=hide hb1;have Hbx:=hide hbx
 clear hst hC hb1 hin hsm hc hbx
 go_enter Tryz.func9,Tryz.ntmps9
 rw[hw1] at d0 d1 d2 d3 d4
 go_wp2_with fail
 rw[← hw1]
 refine(uh HC).mono ?_
 rintro e w2 ⟨rfl,hb2⟩
 have hbx2:=(hb2.block _ (by omega)).trans (uh Hbx)
 have hlt:=(Array.getElem?_eq_some_iff.1 hbx2).1
 have r0:w2.cell? ⟨w.heap.size+1,0,none⟩=some (.slice none 0 0):=by unfold World.cell?;rw[hbx2];rfl
 have f0:w2.frozen? ⟨w.heap.size+1,0,none⟩=false:=by unfold World.frozen?;rw[hbx2];rfl
 have r1:w2.cell? ⟨w.heap.size+1,1,none⟩=some (.slice none 0 0):=by unfold World.cell?;rw[hbx2];rfl
 have f1:w2.frozen? ⟨w.heap.size+1,1,none⟩=false:=by unfold World.frozen?;rw[hbx2];rfl
 have r2:w2.cell? ⟨w.heap.size+1,2,none⟩=some (.slice none 0 0):=by unfold World.cell?;rw[hbx2];rfl
 have f2:w2.frozen? ⟨w.heap.size+1,2,none⟩=false:=by unfold World.frozen?;rw[hbx2];rfl
 have r3:w2.cell? ⟨w.heap.size+1,3,none⟩=some (.slice none 0 0):=by unfold World.cell?;rw[hbx2];rfl
 have f3:w2.frozen? ⟨w.heap.size+1,3,none⟩=false:=by unfold World.frozen?;rw[hbx2];rfl
 have r4:w2.cell? ⟨w.heap.size+1,4,none⟩=some (.slice none 0 0):=by unfold World.cell?;rw[hbx2];rfl
 have f4:w2.frozen? ⟨w.heap.size+1,4,none⟩=false:=by unfold World.frozen?;rw[hbx2];rfl
 have r5:w2.cell? ⟨w.heap.size+1,5,none⟩=some (.slice none 0 0):=by unfold World.cell?;rw[hbx2];rfl
 have f5:w2.frozen? ⟨w.heap.size+1,5,none⟩=false:=by unfold World.frozen?;rw[hbx2];rfl
 have Hb2:=hide hb2
 clear hb2 hbx2
 clear d0 d1 d2 d3 d4
 go_wp2
 refine bodyPost_ret (v:=.tuple #[.agg #[.slice none 0 0,.slice none 0 0,.slice none 0 0,.slice none 0 0,.slice none 0 0,.slice none 0 0],.int .i64 130]) ?zz8 rfl ⟨rfl,?_⟩
 case zz8=>simp[results,Tryz.results9,go_sem,r0,r1,r2,r3,r4,r5]
 have hb:=(uh Hb1).trans (below_le (uh Hb2) (by omega))
 exact(((((hb.setCell (p:=⟨w.heap.size+1,0,none⟩) (by show w.heap.size≤w.heap.size+1;omega) _).setCell (p:=⟨w.heap.size+1,1,none⟩) (by show w.heap.size≤w.heap.size+1;omega) _).setCell (p:=⟨w.heap.size+1,2,none⟩) (by show w.heap.size≤w.heap.size+1;omega) _).setCell (p:=⟨w.heap.size+1,3,none⟩) (by show w.heap.size≤w.heap.size+1;omega) _).setCell (p:=⟨w.heap.size+1,4,none⟩) (by show w.heap.size≤w.heap.size+1;omega) _).setCell (p:=⟨w.heap.size+1,5,none⟩) (by show w.heap.size≤w.heap.size+1;omega) _
theorem reached33_any (G:Gm) (hG:GOk G) (ka pa ra qa:Option Addr) (kc pc rc qc gb ob ub:Nat) (M:Nat) (w:World) (hM:M≤w.heap.size) (hg:GrAt M w G ka kc pa pc ra rc qa qc gb ob ub) :
   Calls Tryz.prog 32 #[.pointer (some ⟨gb,0,none⟩),.func (.func 33) #[] #[]] w fun e w'=>∃ b:Nat,e=.returned (.slice (some ⟨b,0,none⟩) G.rules.length G.rules.length)∧w'.rowIs b 4 G.rules.length (fun r=>.bool (atF G r))∧w.heap.size≤b∧Below w.heap.size w w' :=
 reached_any G hG ka pa ra qa kc pc rc qc gb ob ub M 33 #[] (fun _=>true) (fun _=>true) (fun _ _=>rfl) callF33 w hM hg (fun W q hq _=>(everyProd_any q W).mono fun e W' ⟨h1,h2⟩=>⟨h1,by rw[h2];exact Below.refl _ _⟩)
end Go.Proofs.YtagohbpbgjelaaaGreatDoor

import Derived.Test.YtieciibnajeibaaGreatDoorSI
import Derived.Test.YtieciibnajeibaaGreatDoorRC
import Derived.Lib.SmallJoins
set_option maxHeartbeats 8000000
set_option maxRecDepth 100000
namespace Go.Proofs.YtieciibnajeibaaGreatDoor
open Go.RowKit Go.Sort Go.Lib
theorem zjh(x y:Int)(w:World):Calls Tryz.prog 125 #[.int .i64 x,.int .i64 y] w λe w'=>e=.returned (.int .i64 (Lib.compareInt x y))/\w=w':=by
 unfold Lib.compareInt;by_cases h1:x<y
 ·rw[if_pos h1];go_enter Tryz.func125,Tryz.ntmps125;go_wp2;go_ret;exact⟨rfl,rfl⟩
 ·rw[if_neg h1];by_cases h2:y<x
  ·rw[if_pos h2];go_enter Tryz.func125,Tryz.ntmps125;go_wp2;go_ret;exact⟨rfl,rfl⟩
  ·rw[if_neg h2];go_enter Tryz.func125,Tryz.ntmps125;go_wp2;go_ret;exact⟨rfl,rfl⟩
def orI(p q r:Int):Int:=if p=0 then(if q=0 then r else q) else p
theorem or_any(b:Nat)(p q r:Int)(w:World)(h0:w.cell? ⟨b,0,none⟩=some (.int .i64 p))(h1:w.cell? ⟨b,1,none⟩=some (.int .i64 q))(h2:w.cell? ⟨b,2,none⟩=some (.int .i64 r)) :
 Calls Tryz.prog 124 #[.slice (some ⟨b,0,none⟩) 3 3] w λe w'=>e=.returned (.int .i64 (orI p q r))/\w=w':=by
 go_enter Tryz.func124,Tryz.ntmps124;go_wp2
 go_loopw [8] (λx wr=>∃ k:Nat,x=.int .i64 k/\k<=3/\wr=w/\(0<k->p=0)/\(1<k->q=0)/\(2<k->r=0)) (λx _=>3 - (intOf x).toNat)
 case atStart=>exact⟨0,rfl,by omega,rfl,λh=>by omega,λh=>by omega,λh=>by omega⟩
 case round =>
  obtain⟨k,rfl,hk,rfl,hp,hq,hr⟩:=hrel;have hk3:k=0\/k=1\/k=2\/k=3:=by omega
  rcases hk3 with rfl | rfl | rfl | rfl
  ·clear hp hq hr;by_cases e:p=0
   ·have e':(p != 0)=false:=by simp[e]
    have He:=zaa e;clear e;go_wp2;go_roundw
    case rel=>exact⟨1,by go_num,by omega,by trivial,λ_=>uh He,λh=>by omega,λh=>by omega⟩
    case measure=>simp[intOf]
   ·have e':(p != 0)=true:=by simp[e]
    go_wp2;go_ret;exact⟨by rw[show orI p q r=p from if_neg e];rfl,rfl⟩
  ·have Hp:=zaa (hp (by omega));clear hp hq hr;by_cases e:q=0
   ·have e':(q != 0)=false:=by simp[e]
    have He:=zaa e;clear e;go_wp2;go_roundw
    case rel=>exact⟨2,by go_num,by omega,by trivial,λ_=>uh Hp,λ_=>uh He,λh=>by omega⟩
    case measure=>simp[intOf]
   ·have e':(q != 0)=true:=by simp[e]
    go_wp2;go_ret;exact⟨by rw[show orI p q r=q by unfold orI;rw[if_pos (uh Hp),if_neg e]];rfl,rfl⟩
  ·have Hp:=zaa (hp (by omega));have Hq:=zaa (hq (by omega));clear hp hq hr;by_cases e:r=0
   ·have e':(r != 0)=false:=by simp[e]
    have He:=zaa e;clear e;go_wp2;go_roundw
    case rel=>exact⟨3,by go_num,by omega,by trivial,λ_=>uh Hp,λ_=>uh Hq,λ_=>uh He⟩
    case measure=>simp[intOf]
   ·have e':(r != 0)=true:=by simp[e]
    go_wp2;go_ret;exact⟨by rw[show orI p q r=r by unfold orI;rw[if_pos (uh Hp),if_pos (uh Hq)]];rfl,rfl⟩
  ·have Hp:=zaa (hp (by omega));have Hq:=zaa (hq (by omega));have Hr:=zaa (hr (by omega));clear hp hq hr;go_wp2;go_ret;exact⟨by rw[show orI p q r=0 by unfold orI;rw[if_pos (uh Hp),if_pos (uh Hq),uh Hr]];rfl,rfl⟩
def Held6(c d:Nat)(x y:It)(W:World):Prop :=
 W.cell? ⟨c,0,none⟩=some (.int .i64 x.1)/\W.cell? ⟨c,1,none⟩=some (.int .i64 x.2.1)/\W.cell? ⟨c,2,none⟩=some (.int .i64 x.2.2)/\W.cell? ⟨d,0,none⟩=some (.int .i64 y.1)/\W.cell? ⟨d,1,none⟩=some (.int .i64 y.2.1)/\W.cell? ⟨d,2,none⟩=some (.int .i64 y.2.2)
theorem Held6.alloc{c d:Nat}{x y:It}{W:World}(h:Held6 c d x y W)(o:Obj):Held6 c d x y (W.alloc o):=by
 obtain⟨h0,h1,h2,h3,h4,h5⟩:=h;refine⟨?_,?_,?_,?_,?_,?_⟩
 ·exact(World.cell?_alloc_lt _ _ _ (zsQ W _ h0)).trans h0
 ·exact(World.cell?_alloc_lt _ _ _ (zsQ W _ h1)).trans h1
 ·exact(World.cell?_alloc_lt _ _ _ (zsQ W _ h2)).trans h2
 ·exact(World.cell?_alloc_lt _ _ _ (zsQ W _ h3)).trans h3
 ·exact(World.cell?_alloc_lt _ _ _ (zsQ W _ h4)).trans h4
 ·exact(World.cell?_alloc_lt _ _ _ (zsQ W _ h5)).trans h5
theorem Held6.start(w:World)(x y:It):Held6 w.heap.size (w.heap.size+1) x y ((w.alloc (.cells #[.int .i64 x.1,.int .i64 x.2.1,.int .i64 x.2.2] 57)).alloc (.cells #[.int .i64 y.1,.int .i64 y.2.1,.int .i64 y.2.2] 57)).drew:=by
 have e:=World.cell?_alloc_mark (w.alloc (.cells #[.int .i64 x.1,.int .i64 x.2.1,.int .i64 x.2.2] 57)) #[.int .i64 y.1,.int .i64 y.2.1,.int .i64 y.2.2] 57 (0,0);have e':=World.cell?_alloc_mark w #[.int .i64 x.1,.int .i64 x.2.1,.int .i64 x.2.2] 57 (0,0);rw[show (w.alloc (.cells #[.int .i64 x.1,.int .i64 x.2.1,.int .i64 x.2.2] 57)).heap.size=w.heap.size+1 by simp] at e;refine⟨?_,?_,?_,?_,?_,?_⟩
 ·exact(World.cell?_alloc_lt _ _ _ (by simp)).trans (e' 0)
 ·exact(World.cell?_alloc_lt _ _ _ (by simp)).trans (e' 1)
 ·exact(World.cell?_alloc_lt _ _ _ (by simp)).trans (e' 2)
 ·exact e 0
 ·exact e 1
 ·exact e 2
def zdD(a b:It):Int:=orI (Lib.compareInt a.1 b.1) (Lib.compareInt a.2.1 b.2.1) (Lib.compareInt a.2.2 b.2.2)
theorem zjg(x y:It)(w:World):Calls Tryz.prog 72 #[.agg #[.int .i64 x.1,.int .i64 x.2.1,.int .i64 x.2.2],.agg #[.int .i64 y.1,.int .i64 y.2.1,.int .i64 y.2.2]] w λe w'=>e=.returned (.int .i64 (zdD x y))/\∃ q os',w'=grow (w.drewN q) os' :=
 show Calls Tryz.prog 72 _ w λe w'=>e=.returned (.int .i64 (orI (Lib.compareInt x.1 y.1) (Lib.compareInt x.2.1 y.2.1) (Lib.compareInt x.2.2 y.2.2)))/\_ from by
 have F:Hid (∀ p q r:Int,∀ j,(((w.alloc (.cells #[.int .i64 x.1,.int .i64 x.2.1,.int .i64 x.2.2] 57)).alloc (.cells #[.int .i64 y.1,.int .i64 y.2.1,.int .i64 y.2.2] 57)).alloc (.cells #[.int .i64 p,.int .i64 q,.int .i64 r] 3)).drew.cell? ⟨w.heap.size+1+1,j,none⟩=#[Value.int .i64 p,.int .i64 q,.int .i64 r][j]?):=zaa λp q r j=>by
  have e:=World.cell?_alloc_mark ((w.alloc (.cells #[.int .i64 x.1,.int .i64 x.2.1,.int .i64 x.2.2] 57)).alloc (.cells #[.int .i64 y.1,.int .i64 y.2.1,.int .i64 y.2.2] 57)) #[.int .i64 p,.int .i64 q,.int .i64 r] 3 (0,0) j;rw[show ((w.alloc (.cells #[.int .i64 x.1,.int .i64 x.2.1,.int .i64 x.2.2] 57)).alloc (.cells #[.int .i64 y.1,.int .i64 y.2.1,.int .i64 y.2.2] 57)).heap.size=w.heap.size+1+1 by simp] at e;exact e
 have F0:=zaa (λp q r=>uh F p q r 0);have F1:=zaa (λp q r=>uh F p q r 1);have F2:=zaa (λp q r=>uh F p q r 2);clear F;go_enter Tryz.func72,Tryz.ntmps72;go_wp2_with fail;refine wp_region_held_drew (S:=Held6 w.heap.size (w.heap.size+1) x y) (by kernel_rfl) (Held6.start w x y) (λhH=>?_);refine zad 0 5 rfl rfl hH (λw ⟨s0,s1,s2,s3,s4,s5⟩=>by go_simp;try rfl) ?_;simp only[Act.put,zsA,zsB,zsC];refine zad 1 6 rfl rfl hH (λw ⟨s0,s1,s2,s3,s4,s5⟩=>by go_simp;try rfl) ?_;simp only[Act.put,zsA,zsB,zsC];refine zad 2 7 rfl rfl hH (λw ⟨s0,s1,s2,s3,s4,s5⟩=>by go_simp;try rfl) ?_;simp only[Act.put,zsA,zsB,zsC];refine zad 3 8 rfl rfl hH (λw ⟨s0,s1,s2,s3,s4,s5⟩=>by go_simp;try rfl) ?_;simp only[Act.put,zsA,zsB,zsC];refine zad 5 10 rfl rfl hH (λw ⟨s0,s1,s2,s3,s4,s5⟩=>by go_simp;try rfl) ?_;simp only[Act.put,zsA,zsB,zsC];refine zad 6 11 rfl rfl hH (λw ⟨s0,s1,s2,s3,s4,s5⟩=>by go_simp;try rfl) ?_;simp only[Act.put,zsA,zsB,zsC];refine zad 7 12 rfl rfl hH (λw ⟨s0,s1,s2,s3,s4,s5⟩=>by go_simp;try rfl) ?_;simp only[Act.put,zsA,zsB,zsC];refine zad 8 13 rfl rfl hH (λw ⟨s0,s1,s2,s3,s4,s5⟩=>by go_simp;try rfl) ?_;simp only[Act.put,zsA,zsB,zsC];refine zad 10 15 rfl rfl hH (λw ⟨s0,s1,s2,s3,s4,s5⟩=>by go_simp;try rfl) ?_;simp only[Act.put,zsA,zsB,zsC];refine zad 11 16 rfl rfl hH (λw ⟨s0,s1,s2,s3,s4,s5⟩=>by go_simp;try rfl) ?_;simp only[Act.put,zsA,zsB,zsC];refine zad 12 17 rfl rfl hH (λw ⟨s0,s1,s2,s3,s4,s5⟩=>by go_simp;try rfl) ?_;simp only[Act.put,zsA,zsB,zsC];refine zad 13 18 rfl rfl hH (λw ⟨s0,s1,s2,s3,s4,s5⟩=>by go_simp;try rfl) ?_;simp only[Act.put,zsA,zsB,zsC];refine zai 4 rfl λK hK=>?_;go_simp
 (refine(zjh x.1 y.1 _).mono ?_;rintro e w1 ⟨rfl,rfl⟩)
 go_wp2_with fail;refine hK.out _ _ (hH) (λhH=>?_);clear hK K;refine zai 9 rfl λK hK=>?_;go_simp
 (refine(zjh x.2.1 y.2.1 _).mono ?_;rintro e w2 ⟨rfl,rfl⟩)
 go_wp2_with fail;refine hK.out _ _ (hH) (λhH=>?_);clear hK K;refine zai 14 rfl λK hK=>?_;go_simp
 (refine(zjh x.2.2 y.2.2 _).mono ?_;rintro e w3 ⟨rfl,rfl⟩)
 go_wp2_with fail;refine hK.out _ _ (hH) (λhH=>?_);clear hK K;refine zai 15 rfl λK hK=>?_;go_simp;refine hK.out _ _ (Held6.alloc hH _) (λhH=>?_);clear hK K;refine zai 16 rfl λK hK=>?_;go_simp
 (refine(or_any _ _ _ _ _ (uh F0 _ _ _) (uh F1 _ _ _) (uh F2 _ _ _)).mono ?_;rintro e w4 ⟨rfl,rfl⟩)
 go_wp2_with fail;refine hK.out _ _ (hH) (λhH=>?_);clear hK K;refine zad 17 4 rfl rfl hH (λw ⟨s0,s1,s2,s3,s4,s5⟩=>by go_simp;try rfl) ?_;simp only[Act.put,zsA,zsB,zsC];refine wpAnyH_done (by kernel_rfl) ?_ _;go_wp2;go_ret;exact⟨rfl,1,_,by rw[alloc_eq_grow,alloc_eq_grow,alloc_eq_grow,grow_grow,grow_grow];rfl⟩
def zqG(x:It):List Value:=[.int .i64 x.1,.int .i64 x.2.1,.int .i64 x.2.2]
theorem ztX(blk off size:Nat)(w:World):CmpLays Tryz.prog 72 #[] zqG 3 zdD blk off size w :=
 λ_ _ _ _ x y=>zjg x y _
theorem zcY(x y:It):ltOf zdD x y=decide (ltI x y):=by
 unfold ltOf zdD orI Lib.compareInt;rw[Bool.eq_iff_iff];simp only[decide_eq_true_eq];unfold ltI;rcases Int.lt_trichotomy x.1 y.1 with h | h | h
 ·simp[h]
 ·rcases Int.lt_trichotomy x.2.1 y.2.1 with h2 | h2 | h2
  ·simp[h,h2]
  ·rcases Int.lt_trichotomy x.2.2 y.2.2 with h3 | h3 | h3
   ·simp[h,h2,h3]
   ·simp[h,h2,h3]
   ·have h3':¬ x.2.2<y.2.2:=by omega
    simp[h,h2,h3,h3']
  ·have h2':¬ x.2.1<y.2.1:=by omega
   have h2n:¬ x.2.1=y.2.1:=by omega
   simp[h,h2,h2',h2n]
 ·have h':¬ x.1<y.1:=by omega
  have hn:¬ x.1=y.1:=by omega
  simp[h,h',hn]
theorem swoI:SWO (ltOf zdD) where
 irrefl x:=by rw[zcY];exact decide_eq_false (zdN x)
 trans x y z h1 h2:=by rw[zcY,decide_eq_true_eq] at *;exact zbr h1 h2
 ntrans x y z h1 h2:=by
  rw[zcY,decide_eq_false_iff_not] at *;intro h;unfold ltI at *;omega
end Go.Proofs.YtieciibnajeibaaGreatDoor

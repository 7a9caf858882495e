/- Sets: lay where the block is not there. -/
import Derived.Test.YtagohbpbgjelaaaGreatDoorWkS9
namespace Go.Proofs.YtagohbpbgjelaaaGreatDoor.Wk
open Go.RowKit Go.Maps

set_option maxRecDepth 100000 in
theorem zhR {bl:List Blk} (h:zct bl) (t:Int):(∀ k,k<loc bl t→(bl.getD k (0,0)).1<t)∧∀ k,loc bl t≤k→k<bl.length→t≤(bl.getD k (0,0)).1:=by
 induction bl with
 | nil=>exact⟨fun k hk=>by simp[loc] at hk,fun k _ hk=>by simp at hk⟩
 | cons b l ih =>
   have h2:=List.pairwise_cons.1 h
   obtain⟨i1,i2⟩:=ih h2.2
   by_cases hb:b.1<t
   ·have e:loc (b::l) t=loc l t+1:=by unfold loc;rw[List.filter_cons,if_pos (by simpa using hb)];rfl
    rw[e]
    refine⟨fun k hk=>?_,fun k hk hl=>?_⟩
    ·cases k with
     | zero=>exact hb
     | succ k=>exact i1 k (by omega)
    ·cases k with
     | zero=>omega
     | succ k=>exact i2 k (by omega) (by simpa using hl)
   ·have e:loc (b::l) t=0:=by
     unfold loc
     rw[List.filter_cons,if_neg (by simpa using hb),List.filter_eq_nil_iff.2]
     ·rfl
     ·intro x hx
      have:=h2.1 x hx
      simp only[decide_eq_true_eq]
      omega
    rw[e]
    refine⟨fun k hk=>by omega,fun k _ hl=>?_⟩
    cases k with
    | zero=>show t≤b.1;omega
    | succ k =>
      have hk':k<l.length:=by simpa using hl
      have:l.getD k (0,0) ∈ l:=by rw[zbo _ _ hk'];exact List.getElem_mem _
      have:=h2.1 _ this
      show t≤(l.getD k (0,0)).1
      omega
set_option maxRecDepth 100000 in
theorem loc_le (bl:List Blk) (t:Int):loc bl t≤bl.length:=by unfold loc;exact List.length_filter_le _ _
set_option maxRecDepth 100000 in
theorem zhY {bl:List Blk} (h:zct bl) (t:Int):zgm bl t=true↔loc bl t<bl.length∧(bl.getD (loc bl t) (0,0)).1=t:=by
 have:=znt (i:=loc bl t) h (zhR h t).1 (zhR h t).2
 rw[this,decide_eq_true_eq]
set_option maxRecDepth 100000 in
theorem znu (bl:List Blk) (i:Nat) (b:Blk) (hi:i≤bl.length):(zed bl i b).getD i (0,0)=b:=by
 unfold zed
 rw[List.getD_eq_getElem?_getD,List.getElem?_append_right (by simp;omega),List.length_take,Nat.min_eq_left hi,Nat.sub_self];rfl
set_option maxRecDepth 100000 in
theorem zpt (bl:List Blk) (i:Nat) (b b':Blk) (hi:i≤bl.length):(zed bl i b).set i b'=zed bl i b':=by
 unfold zed
 rw[List.set_append_right _ _ (by simp;omega),List.length_take,Nat.min_eq_left hi,Nat.sub_self];rfl
set_option maxRecDepth 100000 in
theorem zf2 {bl:List Blk} (h:zct bl) {t:Int} (hat:zgm bl t=false) (y:Int):zct (zed bl (loc bl t) (t,y)):=by
 obtain⟨h1,h2⟩:=zhR h t
 unfold zed zct
 rw[List.pairwise_append]
 refine⟨h.sublist (List.take_sublist _ _),List.pairwise_cons.2 ⟨fun x hx=>?_,h.sublist (List.drop_sublist _ _)⟩,fun x hx z hz=>?_⟩
 ·obtain⟨k,hk,rfl⟩:=List.mem_iff_getElem.1 hx
  rw[List.length_drop] at hk
  have:=h2 (loc bl t+k) (by omega) (by omega)
  rw[zbo _ _ (by omega)] at this
  rw[List.getElem_drop]
  have hne:bl[loc bl t+k].1≠t:=fun e=>by
   have:zgm bl t=true:=by
    simp only[zgm,List.any_eq_true,beq_iff_eq]
    exact⟨_,List.getElem_mem _,e⟩
   rw[this] at hat;cases hat
  show t<_
  omega
 ·obtain⟨k,hk,rfl⟩:=List.mem_iff_getElem.1 hx
  rw[List.length_take] at hk
  have hk1:=h1 k (by omega)
  rw[zbo _ _ (by omega)] at hk1
  rw[List.getElem_take]
  rcases List.mem_cons.1 hz with rfl | hz
  ·exact hk1
  ·obtain⟨j,hj,rfl⟩:=List.mem_iff_getElem.1 hz
   rw[List.length_drop] at hj
   have:=h2 (loc bl t+j) (by omega) (by omega)
   rw[zbo _ _ (by omega)] at this
   rw[List.getElem_drop]
   omega

set_option maxHeartbeats 8000000 in
set_option maxRecDepth 100000 in
theorem znl (B:Nat) (O:Nat→Prop) (bl:List Blk) (n t x k:Int) (hat:zgm bl t=false) (hlen:bl.length+1≤1099511627776) (hn:0≤n∧n≤1099511627776) (hk:0≤k∧k≤64)
 (hones:∀ w,Calls Tryz.prog 145 #[.int .u64 (bits .andNot .u64 x 0)] w fun e w'=>e=.returned (.int .i64 k)∧w'=w) (w:World) (h:SetIs w B O bl n) :
 Calls Tryz.prog 121 #[.pointer (some ⟨B,0,none⟩),.agg #[.int .i64 t,.int .u64 x]] w fun e w'=>e=.returned (.int .i64 k)∧Off O w w' ∧
  SetIs w' B (fun j=>O j∨w.heap.size≤j∧j<w'.heap.size) (zed bl (loc bl t) (t,bits .or .u64 0 x)) (n+k):=by
 have hb0:Below w.heap.size w (w.alloc (.cells #[.int .i64 t,.int .u64 x] 129)):=(Below.refl _ _).alloc (Nat.le_refl _) _
 have HF:=zaa (zh1 B O bl n t _ (zcm h hb0))
 rw[hat] at HF
 have hl:=loc_le bl t
 have HU:=zaa (zf2 h.up hat (bits .or .u64 0 x))
 have HX:=zaa (ziM (zed bl (loc bl t) (t,0)) (loc bl t) (by rw[zcO _ _ _ hl];omega) (bits .or .u64 0 x))
 rw[znu _ _ _ hl,zpt _ _ _ _ hl] at HX
 have Hcg:Hid ((zaQ (zed bl (loc bl t) (t,0)))[loc bl t * 2+1]? = some (.int .u64 0)):=zaa (by
  have:=(zkL (zed bl (loc bl t) (t,0)) (loc bl t) (by rw[zcO _ _ _ hl];omega)).2
  rw[znu _ _ _ hl] at this
  exact this)
 have HL2:=zaa (zcO bl (loc bl t) (t,bits .or .u64 0 x) hl)
 have HI0:=zaa (fun b sv W hb hne hr=>zlw t b (loc bl t) sv bl hl (by omega) W hb hne hr)
 have HH:=zaa h
 have HO:=zaa hones
 have hlt:=h.lt B h.own
 clear h hat hones hb0
 generalize zed bl (loc bl t) (t,bits .or .u64 0 x)=bl2 at *
 generalize zed bl (loc bl t) (t,0)=bl1 at *
 generalize loc bl t=i at *
 have Hil:Hid (bl1.length=bl.length+1∧bl2.length=bl.length+1):=zaa ⟨by
  have:=congrArg List.length (uh HX)
  rw[zaX,List.length_set,zaX] at this
  have h2:=uh HL2
  omega,uh HL2⟩
 go_enter Tryz.func121,Tryz.ntmps121
 go_wp2_with (go_at_call 143;refine(uh HF).mono ?_;rintro e w1 ⟨rfl,hb⟩)
 have hbw:Below w.heap.size w w1:=((Below.refl _ _).alloc (Nat.le_refl _) _).trans (hb.mono (by simp))
 have ct:w1.cell? ⟨w.heap.size,0,none⟩=some (.int .i64 t):=(hb.cell (p:=⟨w.heap.size,0,none⟩) (by simp)).trans (World.cell?_alloc_mark w #[.int .i64 t,.int .u64 x] 129 (0,0) 0)
 have cx:w1.cell? ⟨w.heap.size,1,none⟩=some (.int .u64 x):=(hb.cell (p:=⟨w.heap.size,1,none⟩) (by simp)).trans (World.cell?_alloc_mark w #[.int .i64 t,.int .u64 x] 129 (0,0) 1)
 obtain⟨sv,hB1,hr1,hs1⟩:=(zcm (uh HH) hbw).lies
 obtain⟨va,vc,rfl⟩:=zad hr1
 have c0:=cell_block hB1 0 _ rfl
 have f0:=frozen_block hB1 0
 have hsz:w.heap.size<w1.heap.size:=by have:=hb.size;simp at this;omega
 have hOl:=(uh HH).lt
 have n1:=zbr hB1 hr1 (by decide)
 have HI:=zaa (uh HI0 w1.heap.size (.slice va bl.length vc) (w1.alloc (.cells #[.int .i64 t,.int .u64 0] 129)).drew (MapKept.heap_alloc w1 _).1 (fun e=>by have:=hOl _ (hs1 _ e);omega) (hr1.alloc _))
 have HP:Hid (∀ w2 g c,w2.ownsRow 0 129 2 (.slice (some ⟨g,0,none⟩) (bl.length+1) c) (bl.length+1) (zaQ bl1)→((Value.slice va bl.length vc).ownBlock=some g∨(w1.alloc (.cells #[.int .i64 t,.int .u64 0] 129)).drew.heap.size≤g)→Off (fun k=>(Value.slice va bl.length vc).ownBlock=some k) (w1.alloc (.cells #[.int .i64 t,.int .u64 0] 129)).drew w2 →
  w2.heap[B]? = some (.cells #[.slice va bl.length vc,.int .i64 n] 126 (0,0))∧w2.cell? ⟨w.heap.size,1,none⟩=some (.int .u64 x)∧Off O w w2∧(O g∨w.heap.size≤g)∧g≠w.heap.size):=zaa (fun w2 g c hown hgv ho=>by
  have hB1':(w1.alloc (.cells #[.int .i64 t,.int .u64 0] 129)).drew.heap[B]? = _:=(Below.heap_alloc w1 _ B (by omega)).trans hB1
  have cx':(w1.alloc (.cells #[.int .i64 t,.int .u64 0] 129)).drew.cell? ⟨w.heap.size,1,none⟩=_:=(World.cell?_of_block (w:=w1) (Below.heap_alloc w1 (.cells #[.int .i64 t,.int .u64 0] 129) w.heap.size hsz)).trans cx
  have hoW:Off O w (w1.alloc (.cells #[.int .i64 t,.int .u64 0] 129)).drew:=zku (zdF (zbx hbw) _)
  refine⟨(ho.block B (lt_of_some hB1') n1).trans hB1',(zfD ho (p:=⟨w.heap.size,1,none⟩) (by show w.heap.size<(w1.alloc _).heap.size;rw[World.size_alloc];omega) (fun e=>absurd (hOl _ (hs1 _ e)) (Nat.lt_irrefl _))).trans cx',zix hoW ho (fun k hk=>.inl (hs1 k hk)),?_,?_⟩
  ·rcases hgv with h | h
   ·exact .inl (hs1 g h)
   ·exact .inr (by simp at h;omega)
  ·rcases hgv with h | h
   ·have:=hOl g (hs1 g h);omega
   ·simp at h;omega)
 have hBl:B<w1.heap.size:=by omega
 clear hB1 hb hbw hs1 hr1 n1 hOl HI0
 go_region_with (go_at_call 144;refine(uh HI).mono ?_;rintro e w2 ⟨g,c,rfl,hown,hgv,ho2⟩;obtain⟨hB2,cx2,hoff2,hgO,hgs⟩:=uh HP w2 g c hown hgv ho2;have d0:=cell_block hB2 0 _ rfl;have e0:=frozen_block hB2 0)
 all_goals
  have n2:=zbr hB2 hown (by decide)
  have hgB:g≠B:=fun e=>n2 (by rw[e];rfl)
  have hB3:(w2.setCell ⟨B,0,none⟩ (.slice (some ⟨g,0,none⟩) (bl.length+1) c)).heap[B]? = some (.cells #[.slice (some ⟨g,0,none⟩) (bl.length+1) c,.int .i64 n] 126 (0,0)):=block_set (i:=0) hB2 _
  have hr3:(w2.setCell ⟨B,0,none⟩ (.slice (some ⟨g,0,none⟩) (bl.length+1) c)).ownsRow 0 129 2 (.slice (some ⟨g,0,none⟩) (bl.length+1) c) (bl.length+1) (zaQ bl1) :=
   own_off (O:=fun k=>k=B) hown (off_set (O:=fun k=>k=B) (off_refl _ _) (p:=⟨B,0,none⟩) (.inl rfl) _) (fun k hk e=>by simp only[Value.ownBlock,Option.some.injEq] at hk;omega)
  have cx3:(w2.setCell ⟨B,0,none⟩ (.slice (some ⟨g,0,none⟩) (bl.length+1) c)).cell? ⟨w.heap.size,1,none⟩=some (.int .u64 x) :=
   (World.cell?_of_block (w:=w2) (Below.heap_setCell _ _ _ w.heap.size (by show w.heap.size≠B;omega))).trans cx2
  have ho3:Off O w (w2.setCell ⟨B,0,none⟩ (.slice (some ⟨g,0,none⟩) (bl.length+1) c)):=off_set hoff2 (p:=⟨B,0,none⟩) (.inl (uh HH).own) _
  clear hown hB2 cx2 hoff2 d0 e0 ho2 hgv HI HP c0 f0 ct cx n2
  generalize w2.setCell ⟨B,0,none⟩ (.slice (some ⟨g,0,none⟩) (bl.length+1) c)=W3 at *
  have c0:=cell_block hB3 0 _ rfl
  have c1:=cell_block hB3 1 _ rfl
  have f1:=frozen_block hB3 1
  have cg:W3.cell? ⟨g,i * 2+1,none⟩=some (.int .u64 0):=by
   rw[own_cell hr3 rfl (i * 2+1) (by rw[zaX,(uh Hil).1];omega),List.getD_eq_getElem?_getD,uh Hcg];rfl
  have fg:W3.frozen? ⟨g,i * 2+1,none⟩=false:=hr3.frozenAt _
  have HB3:=zaa hB3;have Hr3:=zaa hr3;have Ho3:=zaa ho3
  have hi':(i:Int)<(bl.length:Int)+1:=by omega
  clear hB3 hr3 ho3
  go_wp2
  go_quiet ((go_at_call 145;exact Calls.quiet_of_same (uh HO _)))
  go_wp2
  go_region
  go_wp2
  go_ret
  have s1:=(zeI (uh Hr3) (nq+1)).stored (i * 2+1) (.int .u64 (bits .or .u64 0 x))
  have hB4:((W3.drewN (nq+1)).setCell ⟨g,i * 2+1,none⟩ (.int .u64 (bits .or .u64 0 x))).heap[B]? = some (.cells #[.slice (some ⟨g,0,none⟩) (bl.length+1) c,.int .i64 n] 126 (0,0)):=(Below.heap_setCell (W3.drewN (nq+1)) ⟨g,i * 2+1,none⟩ _ B (fun e=>hgB e.symm)).trans (uh HB3)
  have ho:Off O w (((W3.drewN (nq+1)).setCell ⟨g,i * 2+1,none⟩ (.int .u64 (bits .or .u64 0 x))).setCell ⟨B,1,none⟩ (.int .i64 (n+k))) :=
   off_set (off_set (zbn (uh Ho3) _) (p:=⟨g,i * 2+1,none⟩) hgO _) (p:=⟨B,1,none⟩) (.inl (uh HH).own) _
  have hr4:(((W3.drewN (nq+1)).setCell ⟨g,i * 2+1,none⟩ (.int .u64 (bits .or .u64 0 x))).setCell ⟨B,1,none⟩ (.int .i64 (n+k))).ownsRow 0 129 2 (.slice (some ⟨g,0,none⟩) (bl.length+1) c) (bl.length+1) (zaQ bl2):=by
   rw[uh HX]
   exact own_off (O:=fun k=>k=B) s1.1 (off_set (O:=fun k=>k=B) (off_refl _ _) (p:=⟨B,1,none⟩) (.inl rfl) _) (fun k hk e=>by simp only[Value.ownBlock,Option.some.injEq] at hk;omega)
  have hgl:=(hr4.lt g rfl).2
  refine⟨rfl,ho,.inl (uh HH).own,?_,uh HU,by have:=(uh Hil).2;omega,.slice (some ⟨g,0,none⟩) (bl.length+1) c,block_set hB4 _,by rw[(uh Hil).2];exact hr4,?_⟩
  ·rintro j (h | h)
   ·have:=(uh HH).lt j h;have:=ho.size;omega
   ·exact h.2
  ·intro j hj
   simp only[Value.ownBlock,Option.some.injEq] at hj
   subst hj
   rcases hgO with h | h
   ·exact .inl h
   ·exact .inr ⟨h,hgl⟩
end Go.Proofs.YtagohbpbgjelaaaGreatDoor.Wk

namespace Go.Proofs.YtagohbpbgjelaaaGreatDoor.Wk
open Go.RowKit Go.Maps

set_option maxRecDepth 100000 in
theorem nodup_bound (N:Nat):∀ (l:List Int),l.Nodup→(∀ x ∈ l,0≤x∧x<N)→l.length≤N:=by
 induction N with
 | zero =>
   intro l _ h
   cases l with
   | nil=>simp
   | cons a l=>have:=h a (by simp);omega
 | succ N ih =>
   intro l hn h
   have h1:=ih (l.erase (N:Int)) (hn.erase _) (fun x hx=>by
    have h2:=h x (List.mem_of_mem_erase hx)
    have h3:x≠N:=fun e=>by subst e;exact hn.not_mem_erase hx
    omega)
   have h2:l.length≤(l.erase (N:Int)).length+1:=by
    rw[List.length_erase];split <;> omega
   omega

set_option maxRecDepth 100000 in
theorem zcD (n:Int) (h0:0≤n) (h1:n<2 ^ 64):IntKind.u64.wrap n=n:=by rw[IntKind.wrap_u64];omega
set_option maxRecDepth 100000 in
theorem zdS (X Y:Nat) (hX:X<2 ^ 64) (hY:Y<2 ^ 64):bits .and .u64 X Y=((X &&& Y:Nat):Int):=(bits_nat .u64 64 (by decide) zcD X Y hX hY).1
set_option maxRecDepth 100000 in
theorem ziv (X Y:Nat) (hX:X<2 ^ 64) (hY:Y<2 ^ 64):bits .or .u64 X Y=((X ||| Y:Nat):Int):=(bits_nat .u64 64 (by decide) zcD X Y hX hY).2
def zqa (X Y:Nat):Nat:=(BitVec.ofNat 64 X &&& ~~~ BitVec.ofNat 64 Y).toNat
set_option maxRecDepth 100000 in
theorem zm0 (X Y:Nat):zqa X Y<2 ^ 64:=(BitVec.ofNat 64 X &&& ~~~ BitVec.ofNat 64 Y).isLt
set_option maxRecDepth 100000 in
theorem zhI (X Y i:Nat) (hX:X<2 ^ 64):(zqa X Y).testBit i=(X.testBit i && !Y.testBit i):=by
 unfold zqa
 rw[BitVec.testBit_toNat]
 by_cases hi:i<64
 ·rw[BitVec.getLsbD_and,BitVec.getLsbD_not,BitVec.getLsbD_ofNat,BitVec.getLsbD_ofNat]
  simp[hi]
 ·have:X.testBit i=false:=Nat.testBit_lt_two_pow (Nat.lt_of_lt_of_le hX (Nat.pow_le_pow_right (by decide) (by omega)))
  rw[this]
  simp only[Bool.false_and]
  exact BitVec.getLsbD_of_ge _ _ (by omega)
set_option maxRecDepth 100000 in
theorem zmZ (X Y:Nat):bits .andNot .u64 X Y=(zqa X Y:Int):=by
 show IntKind.u64.wrap ((BitVec.ofInt 64 (X:Int) &&& ~~~ BitVec.ofInt 64 (Y:Int)).toNat:Int)=_
 rw[BitVec.ofInt_natCast,BitVec.ofInt_natCast]
 have:=zm0 X Y
 exact zcD _ (Int.natCast_nonneg _) (by exact_mod_cast this)

set_option maxRecDepth 100000 in
theorem zrK (Y a:Nat):Y &&& 2 ^ a=if Y.testBit a then 2 ^ a else 0:=by
 apply Nat.eq_of_testBit_eq
 intro i
 rw[Nat.testBit_and,Nat.testBit_two_pow]
 by_cases e:a=i
 ·subst e
  cases h:Y.testBit a
  ·simp
  ·simp
 ·cases h:Y.testBit a
  ·simp[e]
  ·simp[e]
set_option maxRecDepth 100000 in
theorem zmK {a:Nat} (h:a<64):2 ^ a<2 ^ 64:=Nat.pow_lt_pow_right (by decide) h
set_option maxRecDepth 100000 in
theorem zo3 (Y a:Nat) (ha:a<64):zqa (2 ^ a) Y=if Y.testBit a then 0 else 2 ^ a:=by
 apply Nat.eq_of_testBit_eq
 intro i
 rw[zhI _ _ _ (zmK ha),Nat.testBit_two_pow]
 by_cases e:a=i
 ·subst e
  cases h:Y.testBit a
  ·simp
  ·simp
 ·cases h:Y.testBit a
  ·simp[e]
  ·simp[e]

def zgO (bl:List Blk):Prop:=∀ b ∈ bl,(0≤b.2∧b.2<18446744073709551616)∧0≤b.1∧b.1<16384
set_option maxRecDepth 100000 in
theorem zqt {bl:List Blk} (h:zct bl) {i j:Nat} (hi:i<bl.length) (hj:j<bl.length) (he:bl[i].1=bl[j].1):i=j:=by
 have pw:=List.pairwise_iff_getElem.1 h
 rcases Nat.lt_trichotomy i j with h | h | h
 ·have:=pw i j hi hj h;omega
 ·exact h
 ·have:=pw j i hj hi h;omega
set_option maxRecDepth 100000 in
theorem zbH {bl:List Blk} (h:zct bl) {s y:Int} (hm:(s,y) ∈ bl):zbP bl s=y:=by
 obtain⟨k,hk,he⟩:=List.mem_iff_getElem.1 hm
 have hat:zgm bl s=true:=by
  simp only[zgm,List.any_eq_true,beq_iff_eq]
  exact⟨(s,y),hm,rfl⟩
 obtain⟨h1,h2⟩:=(zhY h s).1 hat
 rw[zbo _ _ h1] at h2
 have e:loc bl s=k:=zqt h h1 hk (by rw[h2,he])
 unfold zbP
 rw[hat,if_pos rfl,zbo _ _ h1]
 have e2:bl[loc bl s]=bl[k]:=by congr 1
 rw[e2,he]
set_option maxRecDepth 100000 in
theorem zeX {bl:List Blk} {s:Int} (hm:∀ y,(s,y) ∉ bl):zbP bl s=0:=by
 unfold zbP
 rw[if_neg]
 intro hat
 simp only[zgm,List.any_eq_true,beq_iff_eq] at hat
 obtain⟨⟨a,b⟩,hb,he⟩:=hat
 exact hm b (by rw[← he];exact hb)
set_option maxRecDepth 100000 in
theorem zeh {a b:List Blk} (ha:zct a) (hb:zct b) {s:Int} (h:∀ y,(s,y) ∈ a↔(s,y) ∈ b):zbP a s=zbP b s:=by
 by_cases hm:∃ y,(s,y) ∈ a
 ·obtain⟨y,hy⟩:=hm
  rw[zbH ha hy,zbH hb ((h y).1 hy)]
 ·rw[zeX (fun y hy=>hm ⟨y,hy⟩),zeX (fun y hy=>hm ⟨y,(h y).2 hy⟩)]
set_option maxRecDepth 100000 in
theorem zn4 {bl:List Blk} (hf:zgO bl) (s:Int):0≤zbP bl s∧zbP bl s<18446744073709551616:=by
 unfold zbP
 split
 ·rename_i hat
  have hl:=zni hat
  have:bl.getD (loc bl s) (0,0) ∈ bl:=by rw[zbo _ _ hl];exact List.getElem_mem _
  exact(hf _ this).1
 ·omega
set_option maxRecDepth 100000 in
theorem zoE (bl:List Blk) (i:Nat) (hi:i<bl.length):bl=bl.take i ++ bl.getD i (0,0)::bl.drop (i+1):=by
 rw[zbo _ _ hi,← List.drop_eq_getElem_cons hi,List.take_append_drop]
set_option maxRecDepth 100000 in
theorem mem_set {bl:List Blk} {i:Nat} (hi:i<bl.length) (v:Blk) {s y:Int} (hs:s≠v.1) (hb:(bl.getD i (0,0)).1=v.1):(s,y) ∈ bl.set i v↔(s,y) ∈ bl:=by
 have e1:bl.set i v=bl.take i ++ v::bl.drop (i+1):=by rw[List.set_eq_take_append_cons_drop,if_pos hi]
 have hne:(s,y)≠v:=fun e=>hs (by rw[← e])
 have hne2:(s,y)≠bl.getD i (0,0):=fun e=>hs (by rw[← hb,← e])
 rw[e1]
 conv=>rhs;rw[zoE bl i hi]
 simp only[List.mem_append,List.mem_cons,hne,hne2,false_or]
set_option maxRecDepth 100000 in
theorem znb (bl:List Blk) (i:Nat) (v:Blk) {s y:Int} (hs:s≠v.1):(s,y) ∈ zed bl i v↔(s,y) ∈ bl:=by
 have hne:(s,y)≠v:=fun e=>hs (by rw[← e])
 unfold zed
 conv=>rhs;rw[← List.take_append_drop i bl]
 simp only[List.mem_append,List.mem_cons,hne,false_or]
set_option maxRecDepth 100000 in
theorem znG {bl:List Blk} (hf:zgO bl) (i:Nat) (v:Blk) (hv:(0≤v.2∧v.2<18446744073709551616)∧0≤v.1∧v.1<16384):zgO (bl.set i v):=fun b hb=>by
 rcases List.mem_or_eq_of_mem_set hb with h | h
 ·exact hf b h
 ·rw[h];exact hv
set_option maxRecDepth 100000 in
theorem znI {bl:List Blk} (hf:zgO bl) (i:Nat) (v:Blk) (hv:(0≤v.2∧v.2<18446744073709551616)∧0≤v.1∧v.1<16384):zgO (zed bl i v):=fun b hb=>by
 unfold zed at hb
 rcases List.mem_append.1 hb with h | h
 ·exact hf b (List.mem_of_mem_take h)
 ·rcases List.mem_cons.1 h with h | h
  ·rw[h];exact hv
  ·exact hf b (List.mem_of_mem_drop h)
set_option maxRecDepth 100000 in
theorem zdM {bl:List Blk} (h:zct bl) (hf:zgO bl):bl.length≤16384:=by
 have:=nodup_bound 16384 (bl.map (·.1)) (by
  rw[List.nodup_iff_pairwise_ne,List.pairwise_map]
  exact h.imp (fun h=>by omega)) (fun x hx=>by
  obtain⟨b,hb,rfl⟩:=List.mem_map.1 hx
  have:=(hf b hb).2
  omega)
 simpa using this

set_option maxRecDepth 100000 in
theorem zc6 {bl:List Blk} (hf:zgO bl) (m:Int):hasB bl m=(zbP bl (m / 64)).toNat.testBit (m % 64).toNat:=by
 obtain⟨h0,h1⟩:=zn4 hf (m / 64)
 have hm1:=Int.emod_nonneg m (show (64:Int)≠0 by decide)
 have hm2:=Int.emod_lt_of_pos m (show (0:Int)<64 by decide)
 unfold hasB zh5
 obtain⟨X,hX⟩:=Int.eq_ofNat_of_zero_le h0
 rw[hX,zdS X _ (by rw[hX] at h1;omega) (zmK (by omega)),zrK,Int.toNat_natCast]
 cases h:X.testBit (m % 64).toNat
 ·rfl
 ·have:0<2 ^ (m % 64).toNat:=Nat.pos_of_ne_zero (by simp)
  simp only[if_true,bne_iff_ne,ne_eq]
  omega
set_option maxRecDepth 100000 in
theorem num_eq {m n:Int}:(m / 64=n / 64∧(m % 64).toNat=(n % 64).toNat)↔m=n:=by
 have hm1:=Int.emod_nonneg m (show (64:Int)≠0 by decide)
 have hn1:=Int.emod_nonneg n (show (64:Int)≠0 by decide)
 constructor
 ·rintro⟨h1,h2⟩;omega
 ·rintro rfl;exact⟨rfl,rfl⟩
set_option maxRecDepth 100000 in
theorem znz {a b:List Blk} (ha:zgO a) (hb:zgO b) (n:Int) (v:Bool) (h1:∀ s,s≠n / 64→zbP b s=zbP a s) (h2:∀ i,(zbP b (n / 64)).toNat.testBit i=if i=(n % 64).toNat then v else(zbP a (n / 64)).toNat.testBit i) (m:Int) :
 hasB b m=if m=n then v else hasB a m:=by
 rw[zc6 hb,zc6 ha]
 by_cases hd:m / 64=n / 64
 ·rw[hd,h2]
  by_cases hi:(m % 64).toNat=(n % 64).toNat
  ·rw[if_pos hi,if_pos (num_eq.1 ⟨hd,hi⟩)]
  ·rw[if_neg hi,if_neg (fun e=>hi (by rw[e]))]
 ·rw[h1 _ hd,if_neg (fun e=>hd (by rw[e]))]
end Go.Proofs.YtagohbpbgjelaaaGreatDoor.Wk

namespace Go.Proofs.YtagohbpbgjelaaaGreatDoor.Wk
open Go.RowKit Go.Maps

def s1 (a:Nat):Nat:=(a / 2 &&& 85)+(a &&& 85)
def s2 (a:Nat):Nat:=(a / 4 &&& 51)+(a &&& 51)
def s3 (a:Nat):Nat:=(a / 16+a) &&& 15
def zqK (a:Nat):Nat:=((List.range 8).filter fun i=>a.testBit i).length
set_option maxRecDepth 100000 in
theorem s123:∀ a:Fin 256,s3 (s2 (s1 a.val))=zqK a.val∧s1 a.val<256∧s2 (s1 a.val)<256:=by decide +kernel

def za0:List Nat→Nat
 | []=>0
 | a::l=>a+256 * za0 l
set_option maxRecDepth 100000 in
theorem zlU:∀ (l:List Nat),(∀ a ∈ l,a<256)→za0 l<256 ^ l.length
 | [],_=>by decide
 | a::l,h=>by
   have:=zlU l (fun x hx=>h x (List.mem_cons_of_mem _ hx))
   have ha:=h a (by simp)
   rw[List.length_cons,Nat.pow_succ]
   show a+256 * za0 l<_
   omega
set_option maxRecDepth 100000 in
theorem zcR (a W i:Nat) (ha:a<256):(a+256 * W).testBit i=if i<8 then a.testBit i else W.testBit (i - 8):=by
 have:=Nat.testBit_two_pow_mul_add W (b:=a) (i:=8) ha i
 rw[show (2:Nat) ^ 8=256 from rfl] at this
 rw[Nat.add_comm,this]
set_option maxRecDepth 100000 in
theorem zh8 (a b A B:Nat) (ha:a<256) (hb:b<256):(a+256 * A) &&& (b+256 * B)=(a &&& b)+256 * (A &&& B):=by
 apply Nat.eq_of_testBit_eq
 intro i
 have hab:a &&& b<256:=Nat.lt_of_le_of_lt Nat.and_le_left ha
 rw[Nat.testBit_and,zcR a A i ha,zcR b B i hb,zcR _ _ i hab]
 by_cases h:i<8
 ·rw[if_pos h,if_pos h,if_pos h,Nat.testBit_and]
 ·rw[if_neg h,if_neg h,if_neg h,Nat.testBit_and]
set_option maxRecDepth 100000 in
theorem zj7 (a A b k:Nat) (ha:a<256) (hk:k≤8) (hb:b<2 ^ (8 - k)) (B:Nat):((a+256 * A) / 2 ^ k) &&& (b+256 * B)=(a / 2 ^ k &&& b)+256 * ((A / 2 ^ k) &&& B):=by
 have hb8:b<256:=Nat.lt_of_lt_of_le hb (by
  have:2 ^ (8 - k)≤2 ^ 8:=Nat.pow_le_pow_right (by decide) (by omega)
  exact this)
 apply Nat.eq_of_testBit_eq
 intro i
 have hab:a / 2 ^ k &&& b<256:=Nat.lt_of_le_of_lt Nat.and_le_right hb8
 rw[Nat.testBit_and,zcR b B i hb8,zcR _ _ i hab,← Nat.shiftRight_eq_div_pow,Nat.testBit_shiftRight,zcR a A _ ha]
 by_cases h:i<8
 ·rw[if_pos h,if_pos h,Nat.testBit_and,← Nat.shiftRight_eq_div_pow,Nat.testBit_shiftRight]
  by_cases h2:k+i<8
  ·rw[if_pos h2]
  ·have:b.testBit i=false:=Nat.testBit_lt_two_pow (Nat.lt_of_lt_of_le hb (Nat.pow_le_pow_right (by decide) (by omega)))
   rw[this];simp
 ·rw[if_neg h,if_neg h,if_neg (by omega),Nat.testBit_and,← Nat.shiftRight_eq_div_pow,Nat.testBit_shiftRight]
  congr 2
  omega
end Go.Proofs.YtagohbpbgjelaaaGreatDoor.Wk

namespace Go.Proofs.YtagohbpbgjelaaaGreatDoor.Wk
open Go.RowKit Go.Maps

set_option maxRecDepth 100000 in
theorem zqp (n:Nat):∀ X,X<256 ^ n→∃ l:List Nat,l.length=n∧(∀ a ∈ l,a<256)∧X=za0 l:=by
 induction n with
 | zero=>intro X h;exact⟨[],rfl,by simp,by simp at h;exact h⟩
 | succ n ih =>
   intro X h
   rw[Nat.pow_succ] at h
   obtain⟨l,h1,h2,h3⟩:=ih (X / 256) (by omega)
   refine⟨X % 256::l,by simp[h1],fun a ha=>?_,?_⟩
   ·rcases List.mem_cons.1 ha with rfl | ha
    ·omega
    ·exact h2 a ha
   ·show X=X % 256+256 * za0 l
    rw[← h3];omega
set_option maxRecDepth 100000 in
theorem step1:∀ (l:List Nat),(∀ a ∈ l,a<256)→(za0 l / 2 &&& za0 (List.replicate l.length 85))+(za0 l &&& za0 (List.replicate l.length 85))=za0 (l.map s1)
 | [],_=>by decide
 | a::l,h=>by
   have ih:=step1 l (fun x hx=>h x (List.mem_cons_of_mem _ hx))
   have ha:=h a (by simp)
   have e1:=zj7 a (za0 l) 85 1 ha (by decide) (by decide) (za0 (List.replicate l.length 85))
   have e2:=zh8 a 85 (za0 l) (za0 (List.replicate l.length 85)) ha (by decide)
   rw[show (2:Nat) ^ 1=2 from rfl] at e1
   show ((a+256 * za0 l) / 2 &&& (85+256 * za0 (List.replicate l.length 85)))+((a+256 * za0 l) &&& (85+256 * za0 (List.replicate l.length 85)))=s1 a+256 * za0 (l.map s1)
   rw[e1,e2,← ih]
   unfold s1
   omega
set_option maxRecDepth 100000 in
theorem step2:∀ (l:List Nat),(∀ a ∈ l,a<256)→(za0 l / 4 &&& za0 (List.replicate l.length 51))+(za0 l &&& za0 (List.replicate l.length 51))=za0 (l.map s2)
 | [],_=>by decide
 | a::l,h=>by
   have ih:=step2 l (fun x hx=>h x (List.mem_cons_of_mem _ hx))
   have ha:=h a (by simp)
   have e1:=zj7 a (za0 l) 51 2 ha (by decide) (by decide) (za0 (List.replicate l.length 51))
   have e2:=zh8 a 51 (za0 l) (za0 (List.replicate l.length 51)) ha (by decide)
   rw[show (2:Nat) ^ 2=4 from rfl] at e1
   show ((a+256 * za0 l) / 4 &&& (51+256 * za0 (List.replicate l.length 51)))+((a+256 * za0 l) &&& (51+256 * za0 (List.replicate l.length 51)))=s2 a+256 * za0 (l.map s2)
   rw[e1,e2,← ih]
   unfold s2
   omega
def low4 (a:Nat):Prop:=a % 16≤4∧a / 16≤4
set_option maxRecDepth 100000 in
theorem s2_low:∀ a:Fin 256,s2 (s1 a.val) % 16≤4∧s2 (s1 a.val) / 16≤4:=by decide +kernel
set_option maxRecDepth 100000 in
theorem and15 (x:Nat):x &&& 15=x % 16:=Nat.and_two_pow_sub_one_eq_mod x 4
set_option maxRecDepth 100000 in
theorem zlV (l:List Nat) (h:∀ a ∈ l,low4 a):za0 l % 16≤4:=by
 cases l with
 | nil=>decide
 | cons a l =>
   have:=(h a (by simp)).1
   show (a+256 * za0 l) % 16≤4
   omega
set_option maxRecDepth 100000 in
theorem step3:∀ (l:List Nat),(∀ a ∈ l,low4 a)→(za0 l / 16+za0 l) &&& za0 (List.replicate l.length 15)=za0 (l.map s3)
 | [],_=>by decide
 | a::l,h=>by
   have hl:∀ x ∈ l,low4 x:=fun x hx=>h x (List.mem_cons_of_mem _ hx)
   have ih:=step3 l hl
   have ha:=h a (by simp)
   have hh:=zlV l hl
   have e:(a+256 * za0 l) / 16+(a+256 * za0 l)=(a / 16+16 * (za0 l % 16)+a)+256 * (za0 l / 16+za0 l):=by omega
   have hb:a / 16+16 * (za0 l % 16)+a<256:=by have h1:=ha.1;have h2:=ha.2;omega
   show ((a+256 * za0 l) / 16+(a+256 * za0 l)) &&& (15+256 * za0 (List.replicate l.length 15))=s3 a+256 * za0 (l.map s3)
   rw[e,zh8 _ 15 _ _ hb (by decide),ih,and15]
   unfold s3
   rw[and15]
   have:(a / 16+16 * (za0 l % 16)+a) % 16=(a / 16+a) % 16:=by omega
   rw[this]
end Go.Proofs.YtagohbpbgjelaaaGreatDoor.Wk

namespace Go.Proofs.YtagohbpbgjelaaaGreatDoor.Wk
open Go.RowKit Go.Maps

set_option maxRecDepth 100000 in
theorem zcE (a:Nat) (l:List Nat) (ha:a<256):za0 (a::l) / 256=za0 l:=by
 show (a+256 * za0 l) / 256=za0 l
 omega
set_option maxRecDepth 100000 in
theorem zhl:∀ (a b:List Nat),a.length=b.length→za0 a+za0 b=za0 (List.zipWith (· + ·) a b)
 | [],[],_=>rfl
 | x::a,y::b,h=>by
   have ih:=zhl a b (by simpa using h)
   show (x+256 * za0 a)+(y+256 * za0 b)=(x+y)+256 * za0 (List.zipWith (· + ·) a b)
   rw[← ih]
   omega
set_option maxRecDepth 100000 in
theorem zfz:∀ (a:List Nat),za0 (a ++ [0])=za0 a
 | []=>rfl
 | x::a=>by
   show x+256 * za0 (a ++ [0])=x+256 * za0 a
   rw[zfz a]
set_option maxRecDepth 100000 in
theorem div_2 (x:Nat):x / 65536=x / 256 / 256:=by rw[Nat.div_div_eq_div_mul]
set_option maxRecDepth 100000 in
theorem div_4 (x:Nat):x / 4294967296=x / 256 / 256 / 256 / 256:=by rw[Nat.div_div_eq_div_mul,Nat.div_div_eq_div_mul,Nat.div_div_eq_div_mul]
set_option maxRecDepth 100000 in
theorem step4 (b0 b1 b2 b3 b4 b5 b6 b7:Nat) (h0:b0≤8) (h1:b1≤8) (h2:b2≤8) (h3:b3≤8) (h4:b4≤8) (h5:b5≤8) (h6:b6≤8) (h7:b7≤8) (x x4 x5 x6:Nat)
 (hx:x=za0 [b0,b1,b2,b3,b4,b5,b6,b7]) (e4:x4=x+x / 256) (e5:x5=x4+x4 / 65536) (e6:x6=x5+x5 / 4294967296):x6 % 128=b0+b1+b2+b3+b4+b5+b6+b7:=by
 have c4:x4=za0 [b0+b1,b1+b2,b2+b3,b3+b4,b4+b5,b5+b6,b6+b7,b7+0]:=by
  rw[e4,hx,zcE _ _ (by omega),← zfz [b1,b2,b3,b4,b5,b6,b7]]
  exact zhl _ _ rfl
 have c5:x5=za0 [b0+b1+(b2+b3),b1+b2+(b3+b4),b2+b3+(b4+b5),b3+b4+(b5+b6),b4+b5+(b6+b7),b5+b6+(b7+0),b6+b7+0,b7+0+0]:=by
  rw[e5,c4,div_2,zcE _ _ (by omega),zcE _ _ (by omega),← zfz [b2+b3,b3+b4,b4+b5,b5+b6,b6+b7,b7+0],← zfz ([b2+b3,b3+b4,b4+b5,b5+b6,b6+b7,b7+0] ++ [0])]
  exact zhl _ _ rfl
 have c6:∃ K,x6=(b0+b1+(b2+b3)+(b4+b5+(b6+b7)))+256 * K:=by
  rw[e6,c5,div_4,zcE _ _ (by omega),zcE _ _ (by omega),zcE _ _ (by omega),zcE _ _ (by omega)]
  refine⟨za0 [b1+b2+(b3+b4),b2+b3+(b4+b5),b3+b4+(b5+b6),b4+b5+(b6+b7),b5+b6+(b7+0),b6+b7+0,b7+0+0]+za0 [b5+b6+(b7+0),b6+b7+0,b7+0+0],?_⟩
  generalize hA:za0 [b1+b2+(b3+b4),b2+b3+(b4+b5),b3+b4+(b5+b6),b4+b5+(b6+b7),b5+b6+(b7+0),b6+b7+0,b7+0+0]=A
  generalize hC:za0 [b5+b6+(b7+0),b6+b7+0,b7+0+0]=C
  have u1:∀ (p:Nat) (l:List Nat),za0 (p::l)=p+256 * za0 l:=fun _ _=>rfl
  rw[u1 (b0+b1+(b2+b3)),u1 (b4+b5+(b6+b7)),hA,hC]
  omega
 obtain⟨K,hK⟩:=c6
 rw[hK]
 clear hK c4 c5 e4 e5 e6 hx
 omega
end Go.Proofs.YtagohbpbgjelaaaGreatDoor.Wk

namespace Go.Proofs.YtagohbpbgjelaaaGreatDoor.Wk
open Go.RowKit Go.Maps

set_option maxRecDepth 100000 in
theorem zi9 (c:Nat):∀ (l:List Nat),(∀ a ∈ l,a≤c)→255 * za0 l+c≤c * 256 ^ l.length
 | [],_=>by show 255 * 0+c≤c * 1;omega
 | a::l,h=>by
   have ih:=zi9 c l (fun x hx=>h x (List.mem_cons_of_mem _ hx))
   have ha:=h a (by simp)
   rw[List.length_cons,Nat.pow_succ,← Nat.mul_assoc]
   show 255 * (a+256 * za0 l)+c≤c * 256 ^ l.length * 256
   omega
set_option maxRecDepth 100000 in
theorem m85:(6148914691236517205:Int)=((za0 (List.replicate 8 85):Nat):Int):=by decide +kernel
set_option maxRecDepth 100000 in
theorem m51:(3689348814741910323:Int)=((za0 (List.replicate 8 51):Nat):Int):=by decide +kernel
set_option maxRecDepth 100000 in
theorem m15:(1085102592571150095:Int)=((za0 (List.replicate 8 15):Nat):Int):=by decide +kernel
set_option maxRecDepth 100000 in
theorem wlt {l:List Nat} (hl:l.length=8) (h:∀ a ∈ l,a<256):za0 l<2 ^ 64:=by
 have:=zlU l h
 rw[hl] at this
 exact this
set_option maxRecDepth 100000 in
theorem wrep (c:Nat) (hc:c<256):za0 (List.replicate 8 c)<2 ^ 64:=wlt (by simp) (fun a ha=>by rw[List.eq_of_mem_replicate ha];exact hc)
set_option maxRecDepth 100000 in
theorem o1_w {l:List Nat} (hl:l.length=8) (h:∀ a ∈ l,a<256):o1 (za0 l:Int)=(za0 (l.map s1):Int):=by
 have hs:=step1 l h
 rw[hl] at hs
 have hX:=wlt hl h
 have hM:=wrep 85 (by decide)
 have hY:za0 (l.map s1)<2 ^ 64:=wlt (by simpa using hl) (fun a ha=>by
  obtain⟨b,hb,rfl⟩:=List.mem_map.1 ha
  exact(s123 ⟨b,h b hb⟩).2.1)
 unfold o1
 rw[m85,show (za0 l:Int) / 2=((za0 l / 2:Nat):Int) by omega,zdS _ _ (by omega) hM,zdS _ _ hX hM,← Int.natCast_add,hs]
 exact zcD _ (Int.natCast_nonneg _) (by exact_mod_cast hY)
set_option maxRecDepth 100000 in
theorem o2_w {l:List Nat} (hl:l.length=8) (h:∀ a ∈ l,a<256):o2 (za0 (l.map s1):Int)=(za0 ((l.map s1).map s2):Int):=by
 have h1:∀ a ∈ l.map s1,a<256:=fun a ha=>by
  obtain⟨b,hb,rfl⟩:=List.mem_map.1 ha
  exact(s123 ⟨b,h b hb⟩).2.1
 have hs:=step2 (l.map s1) h1
 rw[List.length_map,hl] at hs
 have hX:=wlt (l:=l.map s1) (by simpa using hl) h1
 have hM:=wrep 51 (by decide)
 have hY:za0 ((l.map s1).map s2)<2 ^ 64:=wlt (by simpa using hl) (fun a ha=>by
  obtain⟨b,hb,rfl⟩:=List.mem_map.1 ha
  obtain⟨c,hc,rfl⟩:=List.mem_map.1 hb
  exact(s123 ⟨c,h c hc⟩).2.2)
 unfold o2
 rw[m51,show (za0 (l.map s1):Int) / 4=((za0 (l.map s1) / 4:Nat):Int) by omega,zdS _ _ (by omega) hM,zdS _ _ hX hM,← Int.natCast_add,hs]
 exact zcD _ (Int.natCast_nonneg _) (by exact_mod_cast hY)
set_option maxRecDepth 100000 in
theorem o3_w {l:List Nat} (hl:l.length=8) (h:∀ a ∈ l,low4 a):o3 (za0 l:Int)=(za0 (l.map s3):Int):=by
 have hs:=step3 l h
 rw[hl] at hs
 have hM:=wrep 15 (by decide)
 have hle:=zi9 68 l (fun a ha=>by have h1:=(h a ha).1;have h2:=(h a ha).2;omega)
 rw[hl,show (256:Nat) ^ 8=18446744073709551616 from rfl] at hle
 have hX:za0 l / 16+za0 l<2 ^ 64:=by omega
 unfold o3
 rw[m15,show (za0 l:Int) / 16+(za0 l:Int)=((za0 l / 16+za0 l:Nat):Int) by omega,zcD _ (Int.natCast_nonneg _) (by exact_mod_cast hX),zdS _ _ hX hM,hs]
set_option maxRecDepth 100000 in
theorem and127 (n:Int):bits .and .i64 n 127=n % 128:=by
 show IntKind.i64.wrap ((BitVec.ofInt 64 n &&& BitVec.ofInt 64 127).toNat:Int)=_
 rw[BitVec.toNat_and,show (BitVec.ofInt 64 127).toNat=2 ^ 7 - 1 by decide,Nat.and_two_pow_sub_one_eq_mod,BitVec.toNat_ofInt,IntKind.wrap_i64]
 have e:((n % ((2 ^ 64:Nat):Int)).toNat:Int)=n % 18446744073709551616:=by
  rw[Int.toNat_of_nonneg (Int.emod_nonneg _ (by decide))];rfl
 rw[Int.natCast_emod,e]
 show (n % 18446744073709551616 % 128+9223372036854775808) % 18446744073709551616 - 9223372036854775808=n % 128
 omega
end Go.Proofs.YtagohbpbgjelaaaGreatDoor.Wk

namespace Go.Proofs.YtagohbpbgjelaaaGreatDoor.Wk
open Go.RowKit Go.Maps

def pop (k n:Nat):Nat:=((List.range k).filter fun i=>n.testBit i).length
set_option maxRecDepth 100000 in
theorem zoS (a W m:Nat) (ha:a<256):pop (8+m) (a+256 * W)=zqK a+pop m W:=by
 unfold pop zqK
 rw[List.range_add,List.filter_append,List.length_append,List.filter_map,List.length_map]
 congr 1
 ·congr 1
  apply List.filter_congr
  intro i hi
  rw[zcR a W i ha,if_pos (List.mem_range.1 hi)]
 ·congr 1
  apply List.filter_congr
  intro i _
  show (a+256 * W).testBit (8+i)=_
  rw[zcR a W _ ha,if_neg (by omega)]
  congr 1
  omega
set_option maxRecDepth 100000 in
theorem zqJ (a:Nat):zqK a≤8:=by
 unfold zqK
 have:=List.length_filter_le (fun i=>a.testBit i) (List.range 8)
 simpa using this
set_option maxRecDepth 100000 in
theorem eight (l:List Nat) (h:l.length=8):∃ a b c d e f g i,l=[a,b,c,d,e,f,g,i]:=by
 match l,h with
 | [a,b,c,d,e,f,g,i],_=>exact⟨a,b,c,d,e,f,g,i,rfl⟩
set_option maxRecDepth 100000 in
theorem zhk (x:Nat) (h:x<2 ^ 64):IntKind.u64.wrap (x:Int)=(x:Int):=zcD _ (Int.natCast_nonneg _) (by exact_mod_cast h)
set_option maxRecDepth 100000 in
theorem o7_w (x:Nat):o7 (x:Int)=((x % 128:Nat):Int):=by
 unfold o7
 rw[and127]
 unfold wrap64
 omega
set_option maxRecDepth 100000 in
theorem o4567 {l:List Nat} (hl:l.length=8) (h:∀ a ∈ l,a≤8):o7 (o6 (o5 (o4 (za0 l:Int))))=(l.sum:Int):=by
 have hle:=zi9 8 l h
 rw[hl,show (256:Nat) ^ 8=18446744073709551616 from rfl] at hle
 have e4:o4 (za0 l:Int)=((za0 l+za0 l / 256:Nat):Int):=by
  unfold o4
  rw[show (za0 l:Int)+(za0 l:Int) / 256=((za0 l+za0 l / 256:Nat):Int) by omega]
  exact zhk _ (by omega)
 generalize h4:za0 l+za0 l / 256=x4 at e4
 have b4:x4≤2 * 578721382704613384:=by omega
 have e5:o5 (x4:Int)=((x4+x4 / 65536:Nat):Int):=by
  unfold o5
  rw[show (x4:Int)+(x4:Int) / 65536=((x4+x4 / 65536:Nat):Int) by omega]
  exact zhk _ (by omega)
 generalize h5:x4+x4 / 65536=x5 at e5
 have b5:x5≤4 * 578721382704613384:=by omega
 have e6:o6 (x5:Int)=((x5+x5 / 4294967296:Nat):Int):=by
  unfold o6
  rw[show (x5:Int)+(x5:Int) / 4294967296=((x5+x5 / 4294967296:Nat):Int) by omega]
  exact zhk _ (by omega)
 generalize h6:x5+x5 / 4294967296=x6 at e6
 rw[e4,e5,e6,o7_w x6]
 obtain⟨a,b,c,d,e,f,g,i,rfl⟩:=eight l hl
 rw[step4 a b c d e f g i (h _ (by simp)) (h _ (by simp)) (h _ (by simp)) (h _ (by simp)) (h _ (by simp)) (h _ (by simp)) (h _ (by simp)) (h _ (by simp)) _ x4 x5 x6 rfl h4.symm h5.symm h6.symm]
 simp only[List.sum_cons,List.sum_nil]
 omega
set_option maxRecDepth 100000 in
theorem zki:∀ (l:List Nat),(∀ a ∈ l,a<256)→pop (8 * l.length) (za0 l)=(l.map zqK).sum
 | [],_=>by decide
 | a::l,h=>by
   have ih:=zki l (fun x hx=>h x (List.mem_cons_of_mem _ hx))
   rw[List.length_cons,show 8 * (l.length+1)=8+8 * l.length by omega]
   show pop (8+8 * l.length) (a+256 * za0 l)=_
   rw[zoS _ _ _ (h a (by simp)),ih,List.map_cons,List.sum_cons]
set_option maxRecDepth 100000 in
theorem zoY (n:Nat) (hn:n<2 ^ 64):zjv (n:Int)=(pop 64 n:Int):=by
 obtain⟨l,hl,h,rfl⟩:=zqp 8 n hn
 unfold zjv
 rw[o1_w hl h,o2_w hl h,o3_w (by simpa using hl) ?low]
 case low =>
  intro a ha
  obtain⟨b,hb,rfl⟩:=List.mem_map.1 ha
  obtain⟨c,hc,rfl⟩:=List.mem_map.1 hb
  exact s2_low ⟨c,h c hc⟩
 have hm:((l.map s1).map s2).map s3=l.map zqK:=by
  rw[List.map_map,List.map_map]
  apply List.map_congr_left
  intro a ha
  exact(s123 ⟨a,h a ha⟩).1
 rw[hm,o4567 (by simpa using hl) (fun a ha=>by
  obtain⟨b,hb,rfl⟩:=List.mem_map.1 ha
  exact zqJ b),← zki l h,hl]
end Go.Proofs.YtagohbpbgjelaaaGreatDoor.Wk

/- Sets: one number laid in, one number taken out. -/
import Derived.Test.YtagohbpbgjelaaaGreatDoorWkT3
import Derived.Test.YtagohbpbgjelaaaGreatDoorWkA1
namespace Go.Proofs.YtagohbpbgjelaaaGreatDoor.Wk
open Go.RowKit Go.Maps

def zon (bl:List Blk):Prop:=∀ b ∈ bl,b.2≠0
set_option maxRecDepth 100000 in
theorem zkI {bl:List Blk} (hf:zon bl) (i:Nat) (v:Blk) (hv:v.2≠0):zon (bl.set i v):=fun b hb=>by
 rcases List.mem_or_eq_of_mem_set hb with h | h
 ·exact hf b h
 ·rw[h];exact hv
set_option maxRecDepth 100000 in
theorem zkJ {bl:List Blk} (hf:zon bl) (i:Nat) (v:Blk) (hv:v.2≠0):zon (zed bl i v):=fun b hb=>by
 unfold zed at hb
 rcases List.mem_append.1 hb with h | h
 ·exact hf b (List.mem_of_mem_take h)
 ·rcases List.mem_cons.1 h with h | h
  ·rw[h];exact hv
  ·exact hf b (List.mem_of_mem_drop h)
set_option maxRecDepth 100000 in
theorem zmP {X Y:Nat} (h:X≠0):((Y ||| X:Nat):Int)≠0:=by
 have:X≤Y ||| X:=Nat.right_le_or
 omega
set_option maxRecDepth 100000 in
theorem zkg (a:Nat):2 ^ a≠0:=Nat.ne_of_gt (Nat.two_pow_pos a)
structure SetOk (w:World) (B:Nat) (O:Nat→Prop) (bl:List Blk) (sz:Int):Prop where
 is:SetIs w B O bl sz
 fit:zgO bl
 full:zon bl
set_option maxRecDepth 100000 in
theorem zks {w w':World} {B:Nat} {O:Nat→Prop} {bl:List Blk} {n:Int} (h:SetOk w B O bl n) (hb:Below w.heap.size w w'):SetOk w' B O bl n:=⟨zcm h.is hb,h.fit,h.full⟩
set_option maxRecDepth 100000 in
theorem ok_off {w w':World} {B:Nat} {O O':Nat→Prop} {bl:List Blk} {n:Int} (h:SetOk w B O bl n) (ho:Off O' w w') (hd:∀ k,O k→¬ O' k):SetOk w' B O bl n:=⟨zmt h.is ho hd,h.fit,h.full⟩

set_option maxRecDepth 100000 in
theorem zhL {X:Nat} (h:X<2 ^ 64):0≤(X:Int)∧(X:Int)<18446744073709551616:=by omega
def zif (h:Bool):Int:=if h then 0 else 1
set_option maxRecDepth 100000 in
theorem zkr (Y a:Nat) (ha:a<64):zjv (bits .andNot .u64 ((2 ^ a:Nat):Int) (Y:Int))=zif (Y.testBit a):=by
 rw[zmZ,zo3 _ _ ha]
 cases h:Y.testBit a
 ·exact zoZ ⟨a,ha⟩
 ·exact zmS
set_option maxRecDepth 100000 in
theorem zm4 (h:Bool):0≤zif h∧zif h≤64:=by unfold zif;split <;> omega
set_option maxRecDepth 100000 in
theorem zmV {n:Int} (hn:0≤n∧n<1048576):(0≤n / 64∧n / 64<16384)∧(n % 64).toNat<64:=by
 have h1:=Int.emod_nonneg n (show (64:Int)≠0 by decide)
 have h2:=Int.emod_lt_of_pos n (show (0:Int)<64 by decide)
 omega

set_option maxRecDepth 100000 in
theorem zq3 (B:Nat) (O:Nat→Prop) (bl:List Blk) (sz n:Int) (hn:0≤n∧n<1048576) (hsz:0≤sz∧sz≤1099511627776) (w:World) (h:SetOk w B O bl sz) :
 Calls Tryz.prog 121 #[.pointer (some ⟨B,0,none⟩),.agg #[.int .i64 (n / 64),.int .u64 (zh5 n)]] w fun e w'=>e=.returned (.int .i64 (zif (hasB bl n)))∧Off O w w' ∧
  ∃ bl' O',SetOk w' B O' bl' (sz+zif (hasB bl n))∧(∀ k,O' k→O k∨w.heap.size≤k)∧∀ m,hasB bl' m=if m=n then true else hasB bl m:=by
 obtain⟨ht,ha⟩:=zmV hn
 have hup:=h.is.up
 have hfit:=h.fit
 have hhas:=zc6 hfit n
 obtain⟨a,haa⟩:∃ a,a=(n % 64).toNat:=⟨_,rfl⟩
 have hbv:zh5 n=((2 ^ a:Nat):Int):=by rw[haa];rfl
 rw[← haa] at ha hhas
 have hp:=zmK ha
 cases hat:zgm bl (n / 64)
 ·have hb0:zbP bl (n / 64)=0:=by unfold zbP;rw[hat];rfl
  have hh:hasB bl n=false:=by rw[hhas,hb0];simp
  have hlen:=zdM hup hfit
  have ho:bits .or .u64 0 (zh5 n)=zh5 n:=by
   rw[hbv]
   have:=ziv 0 (2 ^ a) (by decide) hp
   rw[Nat.zero_or] at this
   exact this
  have key:=znl B O bl sz (n / 64) (zh5 n) (zif (hasB bl n)) hat (by omega) hsz (zm4 _) (fun w=>by
   have:=zhC (bits .andNot .u64 (zh5 n) 0) w
   rw[hbv] at this
   have e:zjv (bits .andNot .u64 ((2 ^ a:Nat):Int) ((0:Nat):Int))=_:=zkr 0 a ha
   rw[Nat.zero_testBit] at e
   rw[hh,hbv]
   rw[show ((0:Nat):Int)=0 from rfl] at e
   rw[e] at this
   exact this) w h.is
  rw[ho] at key
  have hri:=zf2 hup hat (zh5 n)
  have hfi:=znI hfit (loc bl (n / 64)) (n / 64,zh5 n) ⟨by rw[hbv];exact zhL hp,ht⟩
  refine key.mono fun e w' ⟨e1,e2,e3⟩=>⟨e1,e2,_,_,⟨e3,hfi,zkJ h.full _ _ (show zh5 n≠0 by rw[hbv];have:=zkg a;omega)⟩,fun k hk=>hk.imp id (fun h=>h.1),fun m=>?_⟩
  refine znz hfit hfi n true (fun s hs=>zeh hri hup (fun y=>znb _ _ _ hs)) (fun i=>?_) m
  rw[zbH hri (show (n / 64,zh5 n) ∈ _ by unfold zed;simp),hb0,hbv,Int.toNat_natCast,Nat.testBit_two_pow,← haa]
  simp only[Int.toNat_zero,Nat.zero_testBit]
  by_cases e:i=a
  ·simp[e]
  ·have e':¬ a=i:=fun h=>e h.symm
   simp[e,e']
 ·obtain⟨hl,he⟩:=(zhY hup (n / 64)).1 hat
  have hmem:bl.getD (loc bl (n / 64)) (0,0) ∈ bl:=by rw[zbo _ _ hl];exact List.getElem_mem _
  have hb0:zbP bl (n / 64)=(bl.getD (loc bl (n / 64)) (0,0)).2:=by unfold zbP;rw[hat];rfl
  obtain⟨Y,hY⟩:=Int.eq_ofNat_of_zero_le (hfit _ hmem).1.1
  have hY2:Y<2 ^ 64:=by have:=(hfit _ hmem).1.2;rw[hY] at this;omega
  rw[hb0,hY,Int.toNat_natCast] at hhas
  have ho:bits .or .u64 (bl.getD (loc bl (n / 64)) (0,0)).2 (zh5 n)=((Y ||| 2 ^ a:Nat):Int):=by rw[hY,hbv];exact ziv Y (2 ^ a) hY2 hp
  have key:=ziF B O bl sz (n / 64) (zh5 n) (zif (hasB bl n)) hat hsz (zm4 _) (fun w=>by
   have:=zhC (bits .andNot .u64 (zh5 n) (bl.getD (loc bl (n / 64)) (0,0)).2) w
   have e:=zkr Y a ha
   rw[← hhas,← hbv] at e
   rw[hY] at this ⊢
   rw[e] at this
   exact this) w h.is
  rw[ho,he] at key
  have hor:Y ||| 2 ^ a<2 ^ 64:=Nat.or_lt_two_pow hY2 hp
  have hfi:=znG hfit (loc bl (n / 64)) (n / 64,((Y ||| 2 ^ a:Nat):Int)) ⟨zhL hor,ht⟩
  have hri:zct (bl.set (loc bl (n / 64)) (n / 64,((Y ||| 2 ^ a:Nat):Int))):=by have:=zf1 hup (loc bl (n / 64)) ((Y ||| 2 ^ a:Nat):Int);rw[he] at this;exact this
  refine key.mono fun e w' ⟨e1,e2,e3⟩=>⟨e1,e2,_,_,⟨e3,hfi,zkI h.full _ _ (zmP (zkg a))⟩,fun k hk=>.inl hk,fun m=>?_⟩
  refine znz hfit hfi n true (fun s hs=>zeh hri hup (fun y=>mem_set hl _ hs he)) (fun i=>?_) m
  rw[zbH hri (show (n / 64,((Y ||| 2 ^ a:Nat):Int)) ∈ _ from List.mem_set hl _),hb0,hY,Int.toNat_natCast,Nat.testBit_or,Nat.testBit_two_pow,← haa]
  by_cases e:i=a
  ·simp[e]
  ·have e':¬ a=i:=fun h=>e h.symm
   simp[e,e']

end Go.Proofs.YtagohbpbgjelaaaGreatDoor.Wk

namespace Go.Proofs.YtagohbpbgjelaaaGreatDoor.Wk
open Go.RowKit Go.Maps

def addS (h:Int→Bool) (l:List Int):(Int→Bool) × Int:=l.foldl (fun p n=>(fun m=>if m=n then true else p.1 m,p.2+zif (p.1 n))) (h,0)
set_option maxRecDepth 100000 in
theorem zm5 (h:Bool):0≤zif h∧zif h≤1:=by unfold zif;split <;> omega
set_option maxRecDepth 100000 in
theorem zgD (h:Int→Bool) (l:List Int) (k:Nat) (hk:k<l.length):addS h (l.take (k+1))=(fun m=>if m=l.getD k 0 then true else(addS h (l.take k)).1 m,(addS h (l.take k)).2+zif ((addS h (l.take k)).1 (l.getD k 0))):=by
 unfold addS
 rw[List.take_add_one,List.getElem?_eq_getElem hk,List.foldl_append,List.getD_eq_getElem?_getD,List.getElem?_eq_getElem hk];rfl
set_option maxRecDepth 100000 in
theorem zrM (h:Int→Bool) (l:List Int) (k:Nat) (hk:k≤l.length):0≤(addS h (l.take k)).2∧(addS h (l.take k)).2≤k:=by
 induction k with
 | zero=>simp[addS]
 | succ k ih =>
   rw[zgD h l k (by omega)]
   have:=ih (by omega)
   have:=zm5 ((addS h (l.take k)).1 (l.getD k 0))
   simp only
   omega
set_option maxHeartbeats 4000000 in
set_option maxRecDepth 100000 in
theorem add_any (B:Nat) (O:Nat→Prop) (bl:List Blk) (sz:Int) (a:Option Addr) (c:Nat) (l:List Int) (hnum:numsB l=true) (hsz:0≤sz∧sz+l.length≤1099511627776) (w:World) (h:SetOk w B O bl sz) (hrow:NRow w a l) (hapart:∀ x,a=some x→¬ O x.block) :
 Calls Tryz.prog 79 #[.pointer (some ⟨B,0,none⟩),.slice a l.length c] w fun e w'=>e=.returned (.tuple #[.int .i64 (addS (hasB bl) l).2,.int .i64 0])∧Off O w w' ∧
  ∃ bl' O',SetOk w' B O' bl' (sz+(addS (hasB bl) l).2)∧(∀ k,O' k→O k∨w.heap.size≤k)∧∀ m,hasB bl' m=(addS (hasB bl) l).1 m:=by
 have HA:=zaa (zen a c l (by omega) w hrow)
 rw[hnum] at HA
 have hnums:∀ k,k<l.length→0≤l.getD k 0∧l.getD k 0<1048576:=fun k hk=>by
  have:=List.all_eq_true.1 hnum (l.getD k 0) (by rw[List.getD_eq_getElem?_getD,List.getElem?_eq_getElem hk];exact List.getElem_mem _)
  simpa using this
 have Hnums:=zaa hnums
 have hOl:=h.is.lt
 have HOl:=zaa hOl
 have Hrow:=zaa hrow
 have Hap:=zaa hapart
 have H0:Hid (∃ bl' O',SetOk w B O' bl' (sz+(addS (hasB bl) (l.take 0)).2)∧(∀ k,O' k→O k∨w.heap.size≤k)∧∀ m,hasB bl' m=(addS (hasB bl) (l.take 0)).1 m):=zaa ⟨bl,O,by
  show SetOk w B O bl (sz+0)
  rw[Int.add_zero];exact h,fun k hk=>.inl hk,fun m=>rfl⟩
 clear h hnum hnums hOl hrow hapart
 generalize hasB bl=hs at *
 go_enter Tryz.func79,Tryz.ntmps79
 go_wp2_with (go_at_call 120;refine(uh HA).mono ?_;rintro e w' ⟨rfl,hw⟩;obtain rfl:=hw.symm)
 go_loopw [16,6] (fun x s wr=>∃ k:Nat,x=.int .i64 k∧k≤l.length∧s=.int .i64 (addS hs (l.take k)).2∧Off O w wr∧∃ bl' O',SetOk wr B O' bl' (sz+(addS hs (l.take k)).2)∧(∀ k,O' k→O k∨w.heap.size≤k)∧∀ m,hasB bl' m=(addS hs (l.take k)).1 m) (fun x _ _=>l.length - (intOf x).toNat)
 case atStart=>exact⟨0,rfl,Nat.zero_le _,rfl,off_refl _ _,uh H0⟩
 case round =>
  obtain⟨k,rfl,hk,rfl,hoff,bl1,O1,hok,hO1,hhas⟩:=hrel
  by_cases hlt:k<l.length
  ·have hlt':(k:Int)<l.length:=by omega
   obtain⟨g,off,rfl,hgl,hcell⟩:∃ g off,a=some ⟨g,off,none⟩∧g<w.heap.size∧∀ j,j<l.length→w.cell? ⟨g,off+j,none⟩=some (.int .i64 (l.getD j 0)):=by
    rcases uh Hrow with h | h
    ·subst h;simp at hlt
    ·exact h
   have hgO:¬ O g:=uh Hap _ rfl
   have ck:wr.cell? ⟨g,off+k,none⟩=some (.int .i64 (l.getD k 0)):=(zfD hoff (p:=⟨g,off+k,none⟩) hgl hgO).trans (hcell k hlt)
   have hle:=zrM hs l k hk
   have HS:=zaa (zgD hs l k hlt)
   have HB:=zaa (zjR (l.getD k 0) wr)
   have HL:=zaa (fun w' (hb:Below wr.heap.size wr w')=>zq3 B O1 bl1 (sz+(addS hs (l.take k)).2) (l.getD k 0) (uh Hnums k hlt) (by omega) w' (zks hok hb))
   rw[hhas] at HL
   have Hhas:=zaa hhas
   have Hoff:=zaa hoff
   have HO1:=zaa hO1
   have hwl:=hoff.size
   have hk01:=zm5 ((addS hs (l.take k)).1 (l.getD k 0))
   have hws:IntKind.i64.wrap ((addS hs (l.take k)).2+zif ((addS hs (l.take k)).1 (l.getD k 0)))=(addS hs (l.take k)).2+zif ((addS hs (l.take k)).1 (l.getD k 0)):=by rw[IntKind.wrap_i64];omega
   clear hok hhas hoff hcell HA H0 hle hk01
   generalize zif ((addS hs (l.take k)).1 (l.getD k 0))=kk at *
   generalize hcs:(addS hs (l.take k)).2=cs at *
   have Hcs:=zaa hcs
   clear hcs
   generalize l.getD k 0=n at *
   go_wp2_with (first | (go_at_call 122;refine(uh HB).mono ?_;rintro e w1 ⟨rfl,hb⟩) | (go_at_call 121;refine(uh HL w1 hb).mono ?_;rintro e w2 ⟨rfl,ho,bl2,O2,hok2,hO2,hhas2⟩;have Ho:=zaa ho;have Hok2:=zaa hok2;have HO2:=zaa hO2;have Hhas2:=zaa hhas2;clear ho hok2 hO2 hhas2))
   go_roundw
   case rel =>
    have hsz1:=hb.size
    refine⟨k+1,by go_num,by omega,?_,zix (uh Hoff) (zgb (zbx hb) (uh Ho)) (uh HO1),bl2,O2,?_,fun j hj=>?_,fun m=>?_⟩
    ·rw[uh HS]
    ·rw[uh HS]
     have:=uh Hok2
     rw[Int.add_assoc] at this
     exact this
    ·rcases uh HO2 j hj with h | h
     ·exact uh HO1 j h
     ·exact .inr (by omega)
    ·rw[uh Hhas2,uh HS,uh Hhas]
   case measure=>simp[intOf];omega
  ·obtain rfl:k=l.length:=by omega
   have hlt':¬ ((l.length:Int)<l.length):=by omega
   rw[List.take_length] at *
   have Hok:=zaa hok;have HO1:=zaa hO1;have Hhas:=zaa hhas;have Hoff:=zaa hoff
   clear hok hO1 hhas hoff HA H0
   go_wp2
   go_ret2
   exact⟨rfl,uh Hoff,bl1,O1,uh Hok,uh HO1,uh Hhas⟩
end Go.Proofs.YtagohbpbgjelaaaGreatDoor.Wk

namespace Go.Proofs.YtagohbpbgjelaaaGreatDoor.Wk
open Go.RowKit Go.Maps

set_option maxRecDepth 100000 in
theorem hint:(Tryz.prog.info? 3).map (fun i=>(i.zero,i.size,i.bytes))=some (some (.int .i64 0),1,8):=by kernel_rfl
def cnt (N:Nat) (h:Int→Bool):Nat:=((List.range N).filter fun i:Nat=>h i).length
set_option maxRecDepth 100000 in
theorem zfF (N:Nat) (h:Int→Bool):cnt (N+1) h=cnt N h+if h N then 1 else 0:=by
 unfold cnt
 rw[List.range_succ,List.filter_append,List.length_append]
 congr 1
 rw[List.filter_cons,List.filter_nil]
 split <;> rfl
set_option maxRecDepth 100000 in
theorem cnt_le (N:Nat) (h:Int→Bool):cnt N h≤N:=by
 have:=List.length_filter_le (fun i:Nat=>h i) (List.range N)
 simpa [cnt] using this
set_option maxRecDepth 100000 in
theorem cnt_zero (N:Nat) (h:Int→Bool) (h0:∀ m,h m=false):cnt N h=0:=by
 unfold cnt
 rw[List.filter_eq_nil_iff.2]
 ·rfl
 ·intro a _;simp[h0]
set_option maxRecDepth 100000 in
theorem zrs (h:Int→Bool) (n:Int) (v:Bool):∀ N:Nat,(N:Int)≤n→cnt N (fun m=>if m=n then v else h m)=cnt N h:=by
 intro N
 induction N with
 | zero=>intro _;rfl
 | succ N ih =>
   intro hN
   rw[zfF,zfF,ih (by omega),if_neg (show ¬ (N:Int)=n by omega)]
set_option maxRecDepth 100000 in
theorem zrr (h:Int→Bool) (n:Int) (hn:0≤n):∀ N:Nat,n<N→(cnt N (fun m=>if m=n then true else h m):Int)=cnt N h+zif (h n):=by
 intro N
 induction N with
 | zero=>intro hN;omega
 | succ N ih =>
   intro hN
   rw[zfF,zfF]
   by_cases e:(N:Int)=n
   ·rw[zrs h n true N (by omega),if_pos e,e]
    unfold zif
    cases h n <;> simp
   ·have:=ih (by omega)
    rw[if_neg e]
    omega
set_option maxRecDepth 100000 in
theorem addS_cnt (N:Nat) (h:Int→Bool) (l:List Int) (hv:∀ k,k<l.length→0≤l.getD k 0∧l.getD k 0<N):∀ k,k≤l.length→(addS h (l.take k)).2=(cnt N (addS h (l.take k)).1:Int) - cnt N h:=by
 intro k
 induction k with
 | zero=>intro _;show (0:Int)=_;simp[addS]
 | succ k ih =>
   intro hk
   rw[zgD h l k (by omega)]
   have:=ih (by omega)
   have h2:=hv k (by omega)
   show (addS h (l.take k)).2+_=_
   rw[zrr _ _ h2.1 N h2.2]
   omega

set_option maxHeartbeats 4000000 in
set_option maxRecDepth 100000 in
theorem add_zero (B:Nat) (w:World):Calls Tryz.prog 79 #[.pointer (some ⟨B,0,none⟩),.slice none 0 0] w fun e w'=>e=.returned (.tuple #[.int .i64 0,.int .i64 0])∧w'=w:=by
 have HA:=zaa (zen none 0 [] (by decide) w (.inl rfl))
 rw[show numsB []=true from rfl,show ([]:List Int).length=0 from rfl] at HA
 go_enter Tryz.func79,Tryz.ntmps79
 go_wp2_with (go_at_call 120;refine(uh HA).mono ?_;rintro e w' ⟨rfl,hw⟩;obtain rfl:=hw.symm)
 go_loop [16,6] (fun x y=>x=.int .i64 0∧y=.int .i64 0) (fun x _=>0)
 case atStart=>exact⟨rfl,rfl⟩
 case round =>
  obtain⟨rfl,rfl⟩:=hrel
  go_wp2
  go_ret2
  exact⟨rfl,rfl⟩
set_option maxHeartbeats 4000000 in
set_option maxRecDepth 100000 in
theorem new_zero (w:World):Calls Tryz.prog 128 #[.slice none 0 0] w fun e w'=>e=.returned (.tuple #[.pointer (some ⟨w.heap.size,0,none⟩),.int .i64 0])∧w'=w.alloc (.cells #[.slice none 0 0,.int .i64 0] 126):=by
 have HA:=zaa (add_zero w.heap.size (w.alloc (.cells #[.slice none 0 0,.int .i64 0] 126)))
 go_enter Tryz.func128,Tryz.ntmps128
 go_wp2_with (go_at_call 79;refine(uh HA).mono ?_;rintro e w1 ⟨rfl,hw⟩;obtain rfl:=hw.symm)
 go_ret2
 exact⟨rfl,rfl⟩
set_option maxRecDepth 100000 in
theorem znH:zgO []:=fun b hb=>by simp at hb
set_option maxRecDepth 100000 in
theorem has_nil (m:Int):hasB [] m=false:=by rw[zc6 znH];simp[zbP,zgm]
set_option maxRecDepth 100000 in
theorem set_zero {w:World} {B:Nat} (h:w.heap[B]? = some (.cells #[.slice none 0 0,.int .i64 0] 126 (0,0))):SetOk w B (fun k=>k=B) [] 0 :=
 ⟨⟨rfl,fun k hk=>by rw[hk];exact lt_of_some h,List.Pairwise.nil,by simp,.slice none 0 0,h,⟨rfl,.inl ⟨rfl,rfl⟩⟩,fun k h=>by simp[Value.ownBlock] at h⟩,znH,fun b hb=>by simp at hb⟩
end Go.Proofs.YtagohbpbgjelaaaGreatDoor.Wk

namespace Go.Proofs.YtagohbpbgjelaaaGreatDoor.Wk
open Go.RowKit Go.Maps

set_option maxRecDepth 100000 in
theorem low_of:∀ (X:Nat),X≠0→∃ k q,X=2 ^ k * (2 * q+1):=by
 intro X
 induction X using Nat.strongRecOn with
 | ind X ih =>
   intro h
   by_cases ho:X % 2=1
   ·exact⟨0,X / 2,by omega⟩
   ·obtain⟨k,q,e⟩:=ih (X / 2) (by omega) (by omega)
    refine⟨k+1,q,?_⟩
    rw[Nat.pow_succ,Nat.mul_assoc,Nat.mul_comm 2,← Nat.mul_assoc,← e]
    omega
set_option maxRecDepth 100000 in
theorem zeO (k q i:Nat):(2 ^ k * (2 * q+1)).testBit i=if i<k then false else if i=k then true else q.testBit (i - k - 1):=by
 have:=Nat.testBit_two_pow_mul_add (2 * q+1) (b:=0) (i:=k) (Nat.two_pow_pos k) i
 rw[Nat.add_zero] at this
 rw[this]
 by_cases h1:i<k
 ·rw[if_pos h1,if_pos h1];simp
 ·rw[if_neg h1,if_neg h1]
  by_cases h2:i=k
  ·subst h2
   rw[if_pos rfl,Nat.sub_self]
   simp[Nat.testBit_zero]
  ·rw[if_neg h2]
   obtain⟨j,rfl⟩:∃ j,i=k+j+1:=⟨i - k - 1,by omega⟩
   rw[show k+j+1 - k=j+1 by omega,Nat.testBit_succ,show (2 * q+1) / 2=q by omega,Nat.add_sub_cancel]
set_option maxRecDepth 100000 in
theorem zio (k q i:Nat):(2 ^ k * (2 * q+1) - 1).testBit i=if i<k then true else if i=k then false else q.testBit (i - k - 1):=by
 have hp:=Nat.two_pow_pos k
 have e:2 ^ k * (2 * q+1) - 1=2 ^ k * (2 * q)+(2 ^ k - 1):=by rw[Nat.mul_add,Nat.mul_one];omega
 have:=Nat.testBit_two_pow_mul_add (2 * q) (b:=2 ^ k - 1) (i:=k) (by omega) i
 rw[e,this]
 by_cases h1:i<k
 ·rw[if_pos h1,if_pos h1,Nat.testBit_two_pow_sub_one];simpa using h1
 ·rw[if_neg h1,if_neg h1]
  by_cases h2:i=k
  ·subst h2
   rw[if_pos rfl,Nat.sub_self]
   simp[Nat.testBit_zero]
  ·rw[if_neg h2]
   obtain⟨j,rfl⟩:∃ j,i=k+j+1:=⟨i - k - 1,by omega⟩
   rw[show k+j+1 - k=j+1 by omega,Nat.testBit_succ,show 2 * q / 2=q by omega,Nat.add_sub_cancel]
set_option maxRecDepth 100000 in
theorem zkD {k q:Nat} (h:2 ^ k * (2 * q+1)<2 ^ 64):k<64:=by
 by_cases hk:k<64
 ·exact hk
 ·exfalso
  have h1:2 ^ 64≤2 ^ k:=Nat.pow_le_pow_right (by decide) (by omega)
  have h2:2 ^ k≤2 ^ k * (2 * q+1):=Nat.le_mul_of_pos_right _ (by omega)
  omega
set_option maxRecDepth 100000 in
theorem zqY {k q:Nat} (h:2 ^ k * (2 * q+1)<2 ^ 64):2 ^ k * (2 * q+1) &&& (2 ^ 64 - 2 ^ k * (2 * q+1))=2 ^ k:=by
 have hk:=zkD h
 have hpos:0<2 ^ k * (2 * q+1):=Nat.mul_pos (Nat.two_pow_pos k) (by omega)
 apply Nat.eq_of_testBit_eq
 intro i
 have e:2 ^ 64 - 2 ^ k * (2 * q+1)=2 ^ 64 - ((2 ^ k * (2 * q+1) - 1)+1):=by omega
 rw[Nat.testBit_and,e,Nat.testBit_two_pow_sub_succ (by omega),Nat.testBit_two_pow,zeO,zio]
 by_cases h1:i<k
 ·rw[if_pos h1];simp;omega
 ·rw[if_neg h1,if_neg h1]
  by_cases h2:i=k
  ·subst h2;simp[hk]
  ·rw[if_neg h2,if_neg h2]
   have h3:¬ k=i:=fun e=>h2 e.symm
   cases q.testBit (i - k - 1) <;> simp[h3]
set_option maxRecDepth 100000 in
theorem zf4 {k q:Nat} (i:Nat):(2 ^ k * (2 * q+1) &&& (2 ^ k * (2 * q+1) - 1)).testBit i=if i≤k then false else(2 ^ k * (2 * q+1)).testBit i:=by
 rw[Nat.testBit_and,zio]
 by_cases h1:i<k
 ·rw[if_pos h1,if_pos (show i≤k by omega),zeO,if_pos h1];rfl
 ·rw[if_neg h1]
  by_cases h2:i=k
  ·rw[if_pos h2,if_pos (show i≤k by omega)];simp
  ·rw[if_neg h2,if_neg (show ¬ i≤k by omega),zeO,if_neg h1,if_neg h2];simp
def zex (X:Nat):List Nat:=(List.range 64).filter fun i=>X.testBit i
set_option maxRecDepth 100000 in
theorem zlL:zex 0=[]:=by unfold zex;rw[List.filter_eq_nil_iff.2];intro a _;simp
set_option maxRecDepth 100000 in
theorem zlM {k q:Nat} (h:2 ^ k * (2 * q+1)<2 ^ 64):zex (2 ^ k * (2 * q+1))=k::zex (2 ^ k * (2 * q+1) &&& (2 ^ k * (2 * q+1) - 1)):=by
 have hk:=zkD h
 unfold zex
 have e:List.range 64=(List.range k ++ [k]) ++ (List.range (63 - k)).map (fun j=>k+1+j):=by
  rw[← List.range_succ,← List.range_add]
  congr 1
  omega
 rw[e,List.filter_append,List.filter_append,List.filter_append,List.filter_append]
 have f1:(List.range k).filter (fun i=>(2 ^ k * (2 * q+1)).testBit i)=[]:=by
  rw[List.filter_eq_nil_iff];intro i hi
  rw[zeO,if_pos (List.mem_range.1 hi)];simp
 have f2:[k].filter (fun i=>(2 ^ k * (2 * q+1)).testBit i)=[k]:=by
  rw[List.filter_cons,if_pos (by rw[zeO,if_neg (by omega),if_pos rfl])];rfl
 have g1:(List.range k).filter (fun i=>(2 ^ k * (2 * q+1) &&& (2 ^ k * (2 * q+1) - 1)).testBit i)=[]:=by
  rw[List.filter_eq_nil_iff];intro i hi
  have:=List.mem_range.1 hi
  rw[zf4,if_pos (by omega)];simp
 have g2:[k].filter (fun i=>(2 ^ k * (2 * q+1) &&& (2 ^ k * (2 * q+1) - 1)).testBit i)=[]:=by
  rw[List.filter_cons,if_neg (by rw[zf4,if_pos (by omega)];simp)];rfl
 have g3:((List.range (63 - k)).map (fun j=>k+1+j)).filter (fun i=>(2 ^ k * (2 * q+1) &&& (2 ^ k * (2 * q+1) - 1)).testBit i)=((List.range (63 - k)).map (fun j=>k+1+j)).filter (fun i=>(2 ^ k * (2 * q+1)).testBit i):=by
  apply List.filter_congr
  intro i hi
  obtain⟨j,-,rfl⟩:=List.mem_map.1 hi
  rw[zf4,if_neg (by omega)]
 rw[f1,f2,g1,g2,g3]
 rfl

def tzTab:List Nat:=[0,1,56,2,57,49,28,3,61,58,42,50,38,29,17,4,62,47,59,36,45,43,51,22,53,39,33,30,24,18,12,5,63,55,48,27,60,41,37,16,46,35,44,21,52,32,23,11,54,26,40,15,34,20,31,10,25,14,19,9,13,8,7,6]
set_option maxRecDepth 100000 in
theorem tz_at:∀ k:Fin 64,tzTab.getD (((2 ^ k.val * 285870213051353865) % 18446744073709551616) / 288230376151711744) 0=k.val:=by decide +kernel
set_option maxRecDepth 100000 in
theorem tz_lt (n:Nat):(n % 18446744073709551616) / 288230376151711744<64:=by omega
end Go.Proofs.YtagohbpbgjelaaaGreatDoor.Wk

namespace Go.Proofs.YtagohbpbgjelaaaGreatDoor.Wk
open Go.RowKit Go.Maps

set_option maxRecDepth 100000 in
theorem pop_le (k n:Nat):pop k n≤k:=by
 unfold pop
 have:=List.length_filter_le (fun i=>n.testBit i) (List.range k)
 simpa using this
set_option maxRecDepth 100000 in
theorem zqf {a b:List Blk} (ha:zgO a) (hb:zgO b) (t:Int) (X:Nat) (h1:∀ s,s≠t→zbP b s=zbP a s) (h2:(zbP b t).toNat=(zbP a t).toNat ||| X) (m:Int) :
 hasB b m=(hasB a m || (decide (m / 64=t) && X.testBit (m % 64).toNat)):=by
 rw[zc6 hb,zc6 ha]
 by_cases hd:m / 64=t
 ·rw[hd,h2,Nat.testBit_or]
  simp
 ·rw[h1 _ hd]
  simp[hd]
def zlo (bl:List Blk) (t:Int) (X:Nat):Int:=(pop 64 (zqa X (zbP bl t).toNat):Int)
set_option maxRecDepth 100000 in
theorem zm7 (bl:List Blk) (t:Int) (X:Nat):0≤zlo bl t X∧zlo bl t X≤64:=by
 have:=pop_le 64 (zqa X (zbP bl t).toNat)
 unfold zlo
 omega
set_option maxRecDepth 100000 in
theorem zhB (bl:List Blk) (t:Int) (X Y:Nat) (hY:zbP bl t=(Y:Int)) (w:World) :
 Calls Tryz.prog 145 #[.int .u64 (bits .andNot .u64 (X:Int) (Y:Int))] w fun e w'=>e=.returned (.int .i64 (zlo bl t X))∧w'=w:=by
 have:=zhC (bits .andNot .u64 (X:Int) (Y:Int)) w
 unfold zlo
 rw[hY,Int.toNat_natCast]
 rw[zmZ] at this ⊢
 rw[zoY _ (zm0 X Y)] at this
 exact this

set_option maxRecDepth 100000 in
theorem zq4 (B:Nat) (O:Nat→Prop) (bl:List Blk) (sz t:Int) (X:Nat) (ht:0≤t∧t<16384) (hX:X<2 ^ 64) (hX0:X≠0) (hsz:0≤sz∧sz≤1099511627776) (w:World) (h:SetOk w B O bl sz) :
 Calls Tryz.prog 121 #[.pointer (some ⟨B,0,none⟩),.agg #[.int .i64 t,.int .u64 (X:Int)]] w fun e w'=>e=.returned (.int .i64 (zlo bl t X))∧Off O w w' ∧
  ∃ bl' O',SetOk w' B O' bl' (sz+zlo bl t X)∧(∀ k,O' k→O k∨w.heap.size≤k)∧∀ m,hasB bl' m=(hasB bl m || (decide (m / 64=t) && X.testBit (m % 64).toNat)):=by
 have hup:=h.is.up
 have hfit:=h.fit
 cases hat:zgm bl t
 ·have hb0:zbP bl t=0:=by unfold zbP;rw[hat];rfl
  have hlen:=zdM hup hfit
  have ho:bits .or .u64 0 (X:Int)=(X:Int):=by
   have:=ziv 0 X (by decide) hX
   rw[Nat.zero_or] at this
   exact this
  have key:=znl B O bl sz t (X:Int) (zlo bl t X) hat (by omega) hsz (zm7 _ _ _) (fun w=>zhB bl t X 0 hb0 w) w h.is
  rw[ho] at key
  have hri:=zf2 hup hat (X:Int)
  have hfi:=znI hfit (loc bl t) (t,(X:Int)) ⟨zhL hX,ht⟩
  refine key.mono fun e w' ⟨e1,e2,e3⟩=>⟨e1,e2,_,_,⟨e3,hfi,zkJ h.full _ _ (show (X:Int)≠0 by omega)⟩,fun k hk=>hk.imp id (fun h=>h.1),fun m=>?_⟩
  refine zqf hfit hfi t X (fun s hs=>zeh hri hup (fun y=>znb _ _ _ hs)) ?_ m
  rw[zbH hri (show (t,(X:Int)) ∈ _ by unfold zed;simp),hb0,Int.toNat_natCast]
  simp
 ·obtain⟨hl,he⟩:=(zhY hup t).1 hat
  have hmem:bl.getD (loc bl t) (0,0) ∈ bl:=by rw[zbo _ _ hl];exact List.getElem_mem _
  have hb0:zbP bl t=(bl.getD (loc bl t) (0,0)).2:=by unfold zbP;rw[hat];rfl
  obtain⟨Y,hY⟩:=Int.eq_ofNat_of_zero_le (hfit _ hmem).1.1
  have hY2:Y<2 ^ 64:=by have:=(hfit _ hmem).1.2;rw[hY] at this;omega
  have ho:bits .or .u64 (bl.getD (loc bl t) (0,0)).2 (X:Int)=((Y ||| X:Nat):Int):=by rw[hY];exact ziv Y X hY2 hX
  have key:=ziF B O bl sz t (X:Int) (zlo bl t X) hat hsz (zm7 _ _ _) (fun w=>by
   rw[hY]
   exact zhB bl t X Y (hb0.trans hY) w) w h.is
  rw[ho,he] at key
  have hor:Y ||| X<2 ^ 64:=Nat.or_lt_two_pow hY2 hX
  have hfi:=znG hfit (loc bl t) (t,((Y ||| X:Nat):Int)) ⟨zhL hor,ht⟩
  have hri:zct (bl.set (loc bl t) (t,((Y ||| X:Nat):Int))):=by have:=zf1 hup (loc bl t) ((Y ||| X:Nat):Int);rw[he] at this;exact this
  refine key.mono fun e w' ⟨e1,e2,e3⟩=>⟨e1,e2,_,_,⟨e3,hfi,zkI h.full _ _ (zmP hX0)⟩,fun k hk=>.inl hk,fun m=>?_⟩
  refine zqf hfit hfi t X (fun s hs=>zeh hri hup (fun y=>mem_set hl _ hs he)) ?_ m
  rw[zbH hri (show (t,((Y ||| X:Nat):Int)) ∈ _ from List.mem_set hl _),hb0,hY,Int.toNat_natCast,Int.toNat_natCast]
end Go.Proofs.YtagohbpbgjelaaaGreatDoor.Wk

namespace Go.Proofs.YtagohbpbgjelaaaGreatDoor.Wk
open Go.RowKit Go.Maps

def zkx (h:Int→Bool) (t:Int) (X:Nat):Int:=(((List.range 64).filter fun i=>X.testBit i && !h (64 * t+i)).length:Nat)
set_option maxRecDepth 100000 in
theorem zo7 {bl:List Blk} (hf:zgO bl) (t:Int) (X:Nat) (hX:X<2 ^ 64):zlo bl t X=zkx (hasB bl) t X:=by
 unfold zlo zkx pop
 congr 2
 apply List.filter_congr
 intro i hi
 have hi:=List.mem_range.1 hi
 rw[zhI _ _ _ hX,zc6 hf,show (64 * t+(i:Int)) / 64=t by omega,show ((64 * t+(i:Int)) % 64).toNat=i by omega]
set_option maxRecDepth 100000 in
theorem zm6 (h:Int→Bool) (t:Int) (X:Nat):0≤zkx h t X∧zkx h t X≤64:=by
 unfold zkx
 have:=List.length_filter_le (fun i=>X.testBit i && !h (64 * t+(i:Int))) (List.range 64)
 rw[List.length_range] at this
 omega
def joinS (h:Int→Bool) (cl:List Blk):(Int→Bool) × Int:=cl.foldl (fun p b=>(fun m=>p.1 m || (decide (m / 64=b.1) && b.2.toNat.testBit (m % 64).toNat),p.2+zkx p.1 b.1 b.2.toNat)) (h,0)
set_option maxRecDepth 100000 in
theorem zec (h:Int→Bool) (l:List Blk) (k:Nat) (hk:k<l.length):joinS h (l.take (k+1))=(fun m=>(joinS h (l.take k)).1 m || (decide (m / 64=(l.getD k (0,0)).1) && (l.getD k (0,0)).2.toNat.testBit (m % 64).toNat),(joinS h (l.take k)).2+zkx (joinS h (l.take k)).1 (l.getD k (0,0)).1 (l.getD k (0,0)).2.toNat):=by
 unfold joinS
 rw[List.take_add_one,List.getElem?_eq_getElem hk,List.foldl_append,List.getD_eq_getElem?_getD,List.getElem?_eq_getElem hk];rfl
set_option maxRecDepth 100000 in
theorem zps (h:Int→Bool) (l:List Blk) (k:Nat) (hk:k≤l.length):0≤(joinS h (l.take k)).2∧(joinS h (l.take k)).2≤64 * k:=by
 induction k with
 | zero=>simp[joinS]
 | succ k ih =>
   rw[zec h l k (by omega)]
   have:=ih (by omega)
   have:=zm6 (joinS h (l.take k)).1 (l.getD k (0,0)).1 (l.getD k (0,0)).2.toNat
   simp only
   omega

set_option maxHeartbeats 4000000 in
set_option maxRecDepth 100000 in
theorem join_any (B C:Nat) (O P:Nat→Prop) (bl cl:List Blk) (sz n:Int) (hsz:0≤sz∧sz≤1099510579200) (w:World) (h:SetOk w B O bl sz) (hc:SetOk w C P cl n) (hd:∀ k,P k→¬ O k) :
 Calls Tryz.prog 94 #[.pointer (some ⟨B,0,none⟩),.pointer (some ⟨C,0,none⟩)] w fun e w'=>e=.returned (.int .i64 (joinS (hasB bl) cl).2)∧Off O w w' ∧
  ∃ bl' O',SetOk w' B O' bl' (sz+(joinS (hasB bl) cl).2)∧(∀ k,O' k→O k∨w.heap.size≤k)∧∀ m,hasB bl' m=(joinS (hasB bl) cl).1 m:=by
 obtain⟨sv,hB,hr,hs⟩:=hc.is.lies
 obtain⟨va,vc,rfl⟩:=zad hr
 have hrow:=zeg hr
 have hlen:=zdM hc.is.up hc.fit
 have hfit:=hc.fit
 have c0:=cell_block hB 0 _ rfl
 have hltC:=lt_of_some hB
 have Hrow:=zaa hrow;have Hfit:=zaa hfit;have Hfull:=zaa hc.full
 have Hnot:Hid (∀ k,(Value.slice va cl.length vc).ownBlock=some k→¬ O k):=zaa (fun k hk=>hd k (hs k hk))
 have HOl:=zaa h.is.lt
 have H0:Hid (∃ bl' O',SetOk w B O' bl' (sz+(joinS (hasB bl) (cl.take 0)).2)∧(∀ k,O' k→O k∨w.heap.size≤k)∧∀ m,hasB bl' m=(joinS (hasB bl) (cl.take 0)).1 m):=zaa ⟨bl,O,by
  show SetOk w B O bl (sz+0)
  rw[Int.add_zero];exact h,fun k hk=>.inl hk,fun m=>rfl⟩
 clear h hc hB hr hs hrow hfit hd
 generalize hasB bl=hs at *
 go_enter Tryz.func94,Tryz.ntmps94
 go_wp2
 go_loopw [19,5] (fun x s wr=>∃ k:Nat,x=.int .i64 k∧k≤cl.length∧s=.int .i64 (joinS hs (cl.take k)).2∧Off O w wr∧∃ bl' O',SetOk wr B O' bl' (sz+(joinS hs (cl.take k)).2)∧(∀ k,O' k→O k∨w.heap.size≤k)∧∀ m,hasB bl' m=(joinS hs (cl.take k)).1 m) (fun x _ _=>cl.length - (intOf x).toNat)
 case atStart=>exact⟨0,rfl,Nat.zero_le _,rfl,off_refl _ _,uh H0⟩
 case round =>
  obtain⟨k,rfl,hk,rfl,hoff,bl1,O1,hok,hO1,hhas⟩:=hrel
  by_cases hlt:k<cl.length
  ·have hlt':(k:Int)<cl.length:=by omega
   rcases uh Hrow with h | ⟨g,rfl,hgl,hcells⟩
   ·subst h;simp at hlt
   obtain⟨d0,d1⟩:=hcells k hlt
   have hgO:¬ O g:=uh Hnot g rfl
   have e0:=(zfD hoff (p:=⟨g,k * 2,none⟩) hgl hgO).trans d0
   have e1:=(zfD hoff (p:=⟨g,k * 2+1,none⟩) hgl hgO).trans d1
   have hmem:cl.getD k (0,0) ∈ cl:=by rw[zbo _ _ hlt];exact List.getElem_mem _
   obtain⟨hf1,hf2⟩:=uh Hfit _ hmem
   have hfu:=uh Hfull _ hmem
   have hle:=zps hs cl k hk
   have HS:=zaa (zec hs cl k hlt)
   clear d0 d1 hcells hmem
   generalize cl.getD k (0,0)=b at *
   obtain⟨t,y⟩:=b
   simp only at e0 e1 hf1 hf2 hfu
   obtain⟨Y,rfl⟩:=Int.eq_ofNat_of_zero_le hf1.1
   have hY:Y<2 ^ 64:=by have:=hf1.2;omega
   have hY0:Y≠0:=by omega
   have HL:=zaa (fun w' (hb:Below wr.heap.size wr w')=>zq4 B O1 bl1 (sz+(joinS hs (cl.take k)).2) t Y hf2 hY hY0 (by omega) w' (zks hok hb))
   have heq:hasB bl1=(joinS hs (cl.take k)).1:=funext hhas
   rw[zo7 hok.fit t Y hY,heq] at HL
   simp only[Int.toNat_natCast] at HS
   have Hoff:=zaa hoff
   have HO1:=zaa hO1
   have hwl:=hoff.size
   have hk01:=zm6 (joinS hs (cl.take k)).1 t Y
   have hws:IntKind.i64.wrap ((joinS hs (cl.take k)).2+zkx (joinS hs (cl.take k)).1 t Y)=(joinS hs (cl.take k)).2+zkx (joinS hs (cl.take k)).1 t Y:=by rw[IntKind.wrap_i64];omega
   clear hok hhas hoff H0 hle hk01 heq hY hf1 hf2 hY0 hfu
   generalize zkx (joinS hs (cl.take k)).1 t Y=kk at *
   generalize hcs:(joinS hs (cl.take k)).2=cs at *
   have Hcs:=zaa hcs
   clear hcs
   have Hb:Hid (Below wr.heap.size wr (wr.alloc (.cells #[.int .i64 t,.int .u64 (Y:Int)] 129))):=zaa ((Below.refl _ _).alloc (Nat.le_refl _) _)
   go_wp2_with (go_at_call 121;refine(uh HL _ (uh Hb)).mono ?_;rintro e w2 ⟨rfl,ho,bl2,O2,hok2,hO2,hhas2⟩;have Ho:=zaa ho;have Hok2:=zaa hok2;have HO2:=zaa hO2;have Hhas2:=zaa hhas2;clear ho hok2 hO2 hhas2)
   go_roundw
   case rel =>
    have hsz1:=(uh Hb).size
    refine⟨k+1,by go_num,by omega,?_,zix (uh Hoff) (zgb (zbx (uh Hb)) (uh Ho)) (uh HO1),bl2,O2,?_,fun j hj=>?_,fun m=>?_⟩
    ·rw[uh HS]
    ·rw[uh HS]
     have:=uh Hok2
     rw[Int.add_assoc] at this
     exact this
    ·rcases uh HO2 j hj with h | h
     ·exact uh HO1 j h
     ·exact .inr (by omega)
    ·rw[uh Hhas2,uh HS]
   case measure=>simp[intOf];omega
  ·obtain rfl:k=cl.length:=by omega
   have hlt':¬ ((cl.length:Int)<cl.length):=by omega
   rw[List.take_length] at *
   have Hok:=zaa hok;have HO1:=zaa hO1;have Hhas:=zaa hhas;have Hoff:=zaa hoff
   clear hok hO1 hhas hoff H0
   go_wp2
   go_ret
   exact⟨rfl,uh Hoff,bl1,O1,uh Hok,uh HO1,uh Hhas⟩
end Go.Proofs.YtagohbpbgjelaaaGreatDoor.Wk

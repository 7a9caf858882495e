import Derived.Test.YtieciibnajeibaaGreatDoorWkK1
import Derived.BigQuiet
set_option maxHeartbeats 8000000
set_option maxRecDepth 100000
namespace Go.Proofs.YtieciibnajeibaaGreatDoor.Wk
open Go.RowKit Go.Maps
structure SetIs (w:World) (B:Nat) (O:Nat->Prop) (bl:List Blk) (n:Int):Prop where
 own:O B
 lt:∀ k,O k->k<w.heap.size
 up:zcl bl
 short:bl.length<=1099511627776
 lies:∃ sv,w.heap[B]? = some (.cells #[sv,.int .i64 n] 233 (0,0))/\w.ownsRow 0 244 2 sv bl.length (zaF bl)/\(∀ k,sv.ownBlock=some k->O k)
variable{B:Nat}{O:Nat->Prop}{bl:List Blk}{n:Int}{w w':World}
theorem zo8{O':Nat->Prop}(h:SetIs w B O bl n)(ho:Off O' w w')(hd:∀ k,O k->¬ O' k):SetIs w' B O bl n:=by
 obtain⟨h1,h2,h3,h4,sv,hB,hr,hs⟩:=h;exact⟨h1,λk hk=>Nat.lt_of_lt_of_le (h2 k hk) ho.size,h3,h4,sv,(ho.block B (h2 B h1) (hd B h1)).trans hB,own_off hr ho (λk hk=>hd k (hs k hk)),hs⟩
theorem zb9(h:SetIs w B O bl n)(hb:Below w.heap.size w w'):SetIs w' B O bl n:=zo8 (O':=λ_=>False) h (zbj hb) (λ_ _ h=>h)
theorem zi6(B:Nat)(O:Nat->Prop)(bl:List Blk)(n t:Int)(w:World)(h:SetIs w B O bl n) :
 Calls Tryz.prog 202 #[.pointer (some ⟨B,0,none⟩),.int .i64 t] w λe w'=>e=.returned (.tuple #[.int .i64 (loc bl t),.bool (zg7 bl t)])/\Below w.heap.size w w':=by
 obtain⟨h1,h2,h3,h4,sv,hB,hr,hs⟩:=h;obtain⟨a,c,rfl⟩:=zaf hr;have HS:=zaa (znx a c bl h4 h3 t w (zeq hr));have c0:=cell_block hB 0 _ rfl;clear hB hr hs h1 h2 h3 h4;generalize loc bl t=x at *;generalize zg7 bl t=y at *;go_enter Tryz.func202,Tryz.ntmps202;go_wp2_with (go_at_call 228;refine(uh HS).mono ?_;rintro e w' ⟨rfl,hb⟩)
 go_ret2
 exact⟨rfl,hb⟩
def zbA(bl:List Blk)(t:Int):Int:=if zg7 bl t then(bl.getD (loc bl t) (0,0)).2 else 0
theorem zp2{t:Int}(h:zg7 bl t=true):loc bl t<bl.length:=by
 simp only[zg7,List.any_eq_true,beq_iff_eq] at h;obtain⟨b,hb,rfl⟩:=h;unfold loc;have:=List.length_filter_lt_length_iff_exists (l:=bl) (p:=λx=>decide (x.1<b.1));exact this.2 ⟨b,hb,by simp⟩
def zjm(n:Int):Int:=((2 ^ (n % 64).toNat:Nat):Int)
theorem and63(n:Int):bits .and .i64 n 63=n % 64:=by
 show IntKind.i64.wrap ((BitVec.ofInt 64 n &&& BitVec.ofInt 64 63).toNat:Int)=_;rw[BitVec.toNat_and,show (BitVec.ofInt 64 63).toNat=2 ^ 6 - 1 by decide,Nat.and_two_pow_sub_one_eq_mod,BitVec.toNat_ofInt,IntKind.wrap_i64];have e:((n % ((2 ^ 64:Nat):Int)).toNat:Int)=n % 18446744073709551616:=by
  rw[Int.toNat_of_nonneg (Int.emod_nonneg _ (by decide))];rfl
 rw[Int.natCast_emod,e];show ((n % 18446744073709551616) % 64+9223372036854775808) % 18446744073709551616 - 9223372036854775808=n % 64;omega
theorem zu2(n:Int):IntKind.u64.wrap (2 ^ (n % 64).toNat)=zjm n:=by
 have h1:=Int.emod_nonneg n (show (64:Int)≠0 by decide);have h2:=Int.emod_lt_of_pos n (show (0:Int)<64 by decide);have hp:2 ^ (n % 64).toNat<2 ^ 64:=Nat.pow_lt_pow_right (by decide) (by omega);have e:((2:Int) ^ (n % 64).toNat)=((2 ^ (n % 64).toNat:Nat):Int):=by simp
 rw[IntKind.wrap_u64,e];unfold zjm;generalize 2 ^ (n % 64).toNat=p at *;omega
theorem zlS(n:Int)(w:World) :
 Calls Tryz.prog 195 #[.int .i64 n] w λe w'=>e=.returned (.agg #[.int .i64 (n / 64),.int .u64 (zjm n)])/\Below w.heap.size w w':=by
 have q1:=and63 n;have q2:=zu2 n;generalize zjm n=x at *;go_enter Tryz.func195,Tryz.ntmps195;go_wp2;exact bodyPost_ret (v:=.agg #[.int .i64 (n / 64),.int .u64 x]) (by simp[results,Tryz.results195,go_sem]) rfl ⟨rfl,(Below.refl _ _).alloc (Nat.le_refl _) _⟩
theorem zdP(n:Int)(w:World):Calls Tryz.prog 164 #[.int .i64 n] w λe w'=>e=.returned (.bool (decide (0<=n/\n<1048576)))/\w'=w:=by
 by_cases h1:0<=n
 ·go_enter Tryz.func164,Tryz.ntmps164;go_wp2;go_ret;exact⟨zbo (by simp[h1]),rfl⟩
 ·go_enter Tryz.func164,Tryz.ntmps164;go_wp2;go_ret;exact⟨zbo (by simp;omega),rfl⟩
def NRow(w:World)(a:Option Addr)(l:List Int):Prop:=l=[]\/∃ g off,a=some ⟨g,off,none⟩/\g<w.heap.size/\∀ j,j<l.length->w.cell? ⟨g,off+j,none⟩=some (.int .i64 (l.getD j 0))
def numsB(l:List Int):Bool:=l.all λn=>decide (0<=n/\n<1048576)
theorem znM(l:List Int)(k:Nat)(hk:k<l.length):numsB (l.take (k+1))=(numsB (l.take k) && decide (0<=l.getD k 0/\l.getD k 0<1048576)):=by
 unfold numsB;rw[List.take_add_one,List.all_append,List.getElem?_eq_getElem hk,List.getD_eq_getElem?_getD,List.getElem?_eq_getElem hk];simp
theorem ziJ{l:List Int}{k:Nat}(h:numsB (l.take k)=false):numsB l=false:=by
 cases hn:numsB l
 ·rfl
 ·rw[<- h];unfold numsB at *;rw[List.all_eq_true] at hn;exact(List.all_eq_true.2 λx hx=>hn x (List.mem_of_mem_take hx)).symm
theorem zcZ(a:Option Addr)(c:Nat)(l:List Int)(hl:l.length<=281474976710656)(w:World)(hrow:NRow w a l) :
 Calls Tryz.prog 194 #[.slice a l.length c] w λe w'=>e=.returned (.bool (numsB l))/\w'=w:=by
 go_enter Tryz.func194,Tryz.ntmps194;go_wp2
 go_loop [7] (λx=>∃ k:Nat,x=.int .i64 k/\k<=l.length/\numsB (l.take k)=true) (λx=>l.length - (intOf x).toNat)
 case atStart=>exact⟨0,rfl,Nat.zero_le _,rfl⟩
 case round =>
  obtain⟨k,rfl,hk,hn⟩:=hrel;by_cases hlt:k<l.length
  ·have hlt':(k:Int)<l.length:=by omega
   rcases hrow with h0 | ⟨g,off,rfl,hgl,hc⟩
   ·subst h0;simp at hlt
   have c0:=hc k hlt;have HT:=zaa (znM l k hlt);rw[hn] at HT;have HO:=zaa (λh=>ziJ (l:=l) (k:=k+1) h);have HI:=zaa (λw=>zdP (l.getD k 0) w);clear hc
   cases hb:decide (0<=l.getD k 0/\l.getD k 0<1048576)
   ·rw[hb] at HT HI;have HN:=zaa (uh HO (by simpa using uh HT));clear hb hn;generalize l.getD k 0=x at *;go_wp2_with (go_at_call 164;refine(uh HI _).mono ?_;rintro e w' ⟨rfl,rfl⟩);go_ret;rw[uh HN];exact⟨rfl,rfl⟩
   ·rw[hb] at HT HI;clear hb hn;generalize l.getD k 0=x at *;go_wp2_with (go_at_call 164;refine(uh HI _).mono ?_;rintro e w' ⟨rfl,rfl⟩);go_round
    case rel=>exact⟨k+1,by go_num,by omega,by simpa using uh HT⟩
    case measure=>simp[intOf];omega
  ·obtain rfl:k=l.length:=by omega
   rw[List.take_length] at hn;have HN:=zaa hn;clear hn;go_wp2;go_ret;rw[uh HN];exact⟨rfl,rfl⟩
end Go.Proofs.YtieciibnajeibaaGreatDoor.Wk

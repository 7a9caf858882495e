import Derived.Test.YtieciibnajeibaaGreatDoorRB
import Derived.Test.YtieciibnajeibaaGreatDoorWkS8
import Derived.Deep.RegionLaw
namespace Go.Proofs.YtieciibnajeibaaGreatDoor
open Go.RowKit Go.Maps
def zaE(l:List It):List Value:=l.flatMap λx=>[.int .i64 x.1,.int .i64 x.2.1,.int .i64 x.2.2]
theorem zcx(x:It)(l:List It):zaE (x::l)=.int .i64 x.1::.int .i64 x.2.1::.int .i64 x.2.2::zaE l:=rfl
theorem zcg(l m:List It):zaE (l ++ m)=zaE l ++ zaE m:=List.flatMap_append
theorem zbU(l:List It):(zaE l).length=l.length * 3:=by
 induction l with
 | nil=>rfl
 | cons x l ih=>rw[zcx];simp[ih];omega
theorem zia(l:List It):∀ k,(zaE l).take (k * 3)=zaE (l.take k):=by
 induction l with
 | nil=>intro k;simp[zaE]
 | cons b l ih =>
   intro k
   cases k with
   | zero=>rfl
   | succ k=>rw[show (k+1) * 3=k * 3+1+1+1 by omega,zcx,List.take_succ_cons,List.take_succ_cons,List.take_succ_cons,ih,List.take_succ_cons,zcx]
theorem zn5(l:List It):∀ k,(zaE l).drop (k * 3)=zaE (l.drop k):=by
 induction l with
 | nil=>intro k;simp[zaE]
 | cons b l ih =>
   intro k
   cases k with
   | zero=>rfl
   | succ k=>rw[show (k+1) * 3=k * 3+1+1+1 by omega,zcx,List.drop_succ_cons,List.drop_succ_cons,List.drop_succ_cons,ih,List.drop_succ_cons]
theorem zgv(l:List It)(j:Nat)(hj:j<l.length):(zaE l)[j * 3]? = some (.int .i64 (l.getD j it0).1)/\(zaE l)[j * 3+1]? = some (.int .i64 (l.getD j it0).2.1)/\(zaE l)[j * 3+2]? = some (.int .i64 (l.getD j it0).2.2):=by
 induction l generalizing j with
 | nil=>simp at hj
 | cons x l ih =>
   rw[zcx]
   cases j with
   | zero=>simp
   | succ j =>
     have:=ih j (by simpa using hj);rw[show (j+1) * 3=j * 3+1+1+1 by omega];simpa using this
theorem zfo(l:List It):∀ u ∈ zaE l,u.oneCell'=true:=by
 intro u hu;simp only[zaE,List.mem_flatMap] at hu;obtain⟨x,_,hx⟩:=hu;simp at hx;rcases hx with rfl | rfl | rfl <;> rfl
theorem zh6:(Tryz.prog.info? 57).map (λi=>(i.zero,i.size,i.bytes))=some (some (.agg #[.int .i64 0,.int .i64 0,.int .i64 0]),3,24):=by kernel_rfl
theorem znF(L:List Value)(i:Nat)(a b c:Value)(h:i+3<=L.length):((L.toArray.setIfInBounds i a).setIfInBounds (i+1) b).setIfInBounds (i+2) c=(Wk.over L i [a,b,c]).toArray:=by
 simp only[List.setIfInBounds_toArray]
 congr 1
 unfold Wk.over;apply List.ext_getElem?;intro j;simp only[List.getElem?_set,List.length_set];rcases Nat.lt_or_ge j i with h1 | h1
 ·rw[if_neg (by omega),if_neg (by omega),if_neg (by omega),List.getElem?_append_left (by simp;omega),List.getElem?_take,if_pos h1]
 ·rw[List.getElem?_append_right (by simp;omega)];have e:(L.take i).length=i:=by simp;omega
  rw[e];rcases Nat.lt_or_ge j (i+3) with h2 | h2
  ·obtain rfl | rfl | rfl:j=i\/j=i+1\/j=i+2:=by omega
   ·rw[if_neg (by omega),if_neg (by omega),if_pos rfl,if_pos (by omega)];simp
   ·rw[if_neg (by omega),if_pos rfl,if_pos (by omega),show i+1 - i=1 by omega];simp
   ·rw[if_pos rfl,if_pos (by omega),show i+2 - i=2 by omega];simp
  ·rw[if_neg (by omega),if_neg (by omega),if_neg (by omega),List.getElem?_append_right (by simp;omega),List.getElem?_drop]
   congr 1
   simp only[List.length_cons,List.length_nil];omega
end Go.Proofs.YtieciibnajeibaaGreatDoor

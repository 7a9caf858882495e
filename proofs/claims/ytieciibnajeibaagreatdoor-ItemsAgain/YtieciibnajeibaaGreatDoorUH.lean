import Derived.Test.YtieciibnajeibaaGreatDoorIY
import Derived.Test.YtieciibnajeibaaGreatDoorRC
set_option maxHeartbeats 8000000
set_option maxRecDepth 100000
namespace Go.Proofs.YtieciibnajeibaaGreatDoor
open Go.RowKit Go.Lib
theorem comp2S(B:Nat)(v:Value)(l:List Sp)(w:World)(h:w.ownsRow B 121 2 v l.length (za9 l))(hB:B<=w.heap.size)(hl:l.length<=1099511627776) :
 Calls Tryz.prog 141 #[v] w λe w'=>∃ a' c',e=.returned (.slice a' (cuS l l.length).length c')/\w'.ownsRow B 121 2 (.slice a' (cuS l l.length).length c') (cuS l l.length).length (za9 (cuS l l.length))/\Below B w w':=by
 rcases h.2 with ⟨rfl,h0⟩ | ⟨g,cap,cur,rfl,hg,-⟩
 ·have e:l=[]:=List.length_eq_zero_iff.1 h0;subst e;have e2:cuS [] ([]:List Sp).length=[]:=rfl;rw[e2];go_enter Tryz.func141,Tryz.ntmps141;go_wp2;go_ret;exact⟨none,0,rfl,zsq,zsY _ _⟩
 ·by_cases hn:l=[]
  ·subst hn;have e2:cuS [] ([]:List Sp).length=[]:=rfl;rw[e2];have H:=zaa h;clear h;go_enter Tryz.func141,Tryz.ntmps141;go_wp2;go_ret;exact⟨some ⟨g,0,none⟩,cap,rfl,uh H,zsY _ _⟩
  ·obtain⟨g',cap',e,hg',hb⟩:=zua h hn;obtain⟨rfl,rfl⟩:g=g'/\cap=cap':=by simpa using e
   refine(zqQ g cap l w hb hl).mono ?_;rintro e2 w2 ⟨rfl,hb2,hf⟩;exact⟨some ⟨g,0,none⟩,cap,rfl,zss hb2 hg,zau hf hB (λk hk=>by subst hk;exact hg)⟩
def ztK(l m:List Sp)(k:Nat):Prop:=∀ j,j<k->l.getD j sp0=m.getD j sp0
theorem eq_ofS{l m:List Sp}(hl:l.length=m.length)(h:ztK l m l.length):l=m:=by
 apply List.ext_getElem hl;intro j h1 h2;have:=h j h1
 rwa [zsE,zsE,zsF h1,zsF h2] at this
theorem zn9(a b:Option Addr)(ca cb:Nat)(l m:List Sp)(hl:l.length<=281474976710656)(w:World)(h1:zhF w.heap.size w a l)(h2:zhF w.heap.size w b m) :
 Calls Tryz.prog 142 #[.slice a l.length ca,.slice b m.length cb] w λe w'=>e=.returned (.bool (decide (l=m)))/\∃ q,w'=w.drewN q:=by
 by_cases hlen:l.length=m.length
 ·have hlen':((l.length:Int) != m.length)=false:=by simp;omega
  have Hyes:=zaa (λ(h:ztK l m l.length)=>show decide (l=m)=true from decide_eq_true (eq_ofS hlen h));have Hno:=zaa (λ(j:Nat) (h:l.getD j sp0≠m.getD j sp0)=>show decide (l=m)=false from decide_eq_false (λe=>h (by rw[e])));have H1:=zaa h1;have H2:=zaa h2;clear h1 h2;generalize decide (l=m)=R at *;go_enter Tryz.func142,Tryz.ntmps142;go_wp2
  go_loopw [13] (λx wr=>∃ k:Nat,x=.int .i64 k/\k<=l.length/\ztK l m k/\∃ q,wr=w.drewN q) (λx _=>l.length - (intOf x).toNat)
  case atStart=>exact⟨0,rfl,zsK _,λj hj=>absurd hj (Nat.not_lt_zero _),0,rfl⟩
  case round =>
   obtain⟨k,rfl,hk,heq,q,rfl⟩:=hrel;have Heq:=zaa heq;clear heq;by_cases hlt:k<l.length
   ·have hlt':(k:Int)<l.length:=by omega
    have hlt2':(k:Int)<m.length:=by omega
    obtain⟨b1,o1,rfl,hb1,c0,c1⟩:=zl9 (uh H1) hlt;obtain⟨b2,o2,rfl,hb2,e0,e1⟩:=zl9 (uh H2) (k:=k) (by omega);have d0:(w.drewN q).cell? ⟨b1,o1+k * 2,none⟩=some (.int .i64 (l.getD k sp0).1):=c0;have d1:(w.drewN q).cell? ⟨b1,o1+k * 2+1,none⟩=some (.int .i64 (l.getD k sp0).2):=c1;have f0:(w.drewN q).cell? ⟨b2,o2+k * 2,none⟩=some (.int .i64 (m.getD k sp0).1):=e0;have f1:(w.drewN q).cell? ⟨b2,o2+k * 2+1,none⟩=some (.int .i64 (m.getD k sp0).2):=e1;clear c0 c1 e0 e1;have hne:=zpa (l.getD k sp0) (m.getD k sp0);by_cases he:l.getD k sp0=m.getD k sp0
    ·have Hs:Hid (ztK l m (k+1)):=zaa (λj hj=>by
      by_cases e:j=k
      ·subst e;exact he
      ·exact uh Heq j (by omega))
     rw[decide_eq_true he] at hne;clear he;generalize m.getD k sp0=x at *;generalize l.getD k sp0=y at *;generalize hW:w.drewN q=W at *;go_wp2;go_quiet (fail);go_wp2;go_roundw
     case rel=>exact⟨k+1,by go_num,by omega,uh Hs,q+nq,by rw[<- hW,World.drewN_drewN]⟩
     case measure=>simp[intOf];omega
    ·have Hr:=zaa (uh Hno k he);rw[decide_eq_false he] at hne;clear he;generalize m.getD k sp0=x at *;generalize l.getD k sp0=y at *;generalize hW:w.drewN q=W at *;go_wp2;go_quiet (fail);go_wp2;go_ret;rw[uh Hr];exact⟨rfl,q+nq,by rw[<- hW,World.drewN_drewN]⟩
   ·obtain rfl:k=l.length:=by omega
    have Hr:=zaa (uh Hyes (uh Heq));go_wp2;go_ret;rw[uh Hr];exact⟨rfl,q,rfl⟩
 ·have hlen':((l.length:Int) != m.length)=true:=by simp;omega
  have Hr:Hid (decide (l=m)=false):=zaa (decide_eq_false (λe=>hlen (by rw[e])));generalize decide (l=m)=R at *;go_enter Tryz.func142,Tryz.ntmps142;go_wp2;go_ret;rw[uh Hr];exact⟨rfl,0,rfl⟩
theorem zmY(a:Option Addr)(c:Nat)(l:List It)(hl:l.length<=1000000000)(w:World)(h:zcy w.heap.size w a l) :
 Calls Tryz.prog 99 #[.slice a l.length c] w λe w'=>∃ a' c',e=.returned (.slice a' (zcI l).length c')/\w'.ownsRow w.heap.size 121 2 (.slice a' (zcI l).length c') (zcI l).length (za9 (zcI l))/\Below w.heap.size w w':=by
 have Hh:=zaa h;clear h;go_enter Tryz.func99,Tryz.ntmps99;obtain⟨i0,hi,hz0,hz1,hz2⟩:=zah zwh;go_wp2_with fail
 go_loopw [3,8] (λv x wr=>∃ k:Nat,x=.int .i64 k/\k<=l.length/\(∃ a' c',v=.slice a' ((l.take k).map spt).length c'/\wr.ownsRow w.heap.size 121 2 (.slice a' ((l.take k).map spt).length c') ((l.take k).map spt).length (za9 ((l.take k).map spt)))/\Below w.heap.size w wr) (λ_ x _=>l.length - (intOf x).toNat)
 case atStart=>exact⟨0,rfl,zsK _,⟨none,0,rfl,rfl,.inl ⟨rfl,rfl⟩⟩,zsY _ _⟩
 case round =>
  obtain⟨k,rfl,hk,⟨a',c',rfl,hown⟩,hb⟩:=hrel;by_cases hkl:k<l.length
  ·have hkl':(k:Int)<(l.length:Int):=by omega
   have hsn:(l.take (k+1)).map spt=(l.take k).map spt ++ [spt (l.getD k it0)]:=by
    rw[zsU,zsF hkl,zsE,zsF hkl,List.map_append];rfl
   have hn:((l.take k).map spt).length<=k:=by rw[List.length_map,zsV];omega
   obtain⟨b,off,rfl,hbB,x0,x1,x2⟩:=zby (zaw hb (uh Hh)) hkl;generalize l.getD k it0=X at *;generalize (l.take k).map spt=L at *;have hsz:=hb.size;have Hb:=zaa hb;have Hown:=zaa hown;have Hsn:=zaa hsn;clear hb hown hsn;have Ho2:=zaa (show ((wr.alloc (.cells #[.int .i64 X.1,.int .i64 X.2.1,.int .i64 X.2.2] 57)).alloc (.cells #[.int .i64 X.1,.int .i64 X.2.1] 121)).ownsRow w.heap.size 121 2 (.slice a' L.length c') L.length (za9 L) from((uh Hown).alloc _).alloc _);have Hb2:=zaa (((uh Hb).alloc hsz (.cells #[.int .i64 X.1,.int .i64 X.2.1,.int .i64 X.2.2] 57)).alloc (by simp;omega) (.cells #[.int .i64 X.1,.int .i64 X.2.1] 121));have Hc:=zaa (zsH (wr.alloc (.cells #[.int .i64 X.1,.int .i64 X.2.1,.int .i64 X.2.2] 57)) (.cells #[.int .i64 X.1,.int .i64 X.2.1] 121));go_wp2_with (at_builtin;refine wpList_append_own _ rfl _ _ 157 rfl w.heap.size 121 i0 (.agg #[.int .i64 0,.int .i64 0]) 2 16 Tryz.underlying157 hi hz0 hz1 hz2 rfl (by decide) _ _ _ rfl (uh Ho2) ⟨wr.heap.size+1,0,none⟩ 1 1 (za9 [spt X]) rfl ?qc1 ?qc2 ?qc3 ?qc4 ?qc5 ?qc6 ?_)
   case qc1=>exact zhb [spt X]
   case qc2=>intro j u hj;exact World.news_of_block (by simpa using uh Hc) j u (by simpa [za9,spt] using hj)
   case qc3=>exact zqy [spt X]
   case qc4=>unfold maxLen;omega
   case qc5=>omega
   case qc6=>have:=(uh Hb2).size;simp at this ⊢;omega
   intro v' w1 hown hgrow hnil;have HL:(za9 L ++ za9 [spt X])=za9 (L ++ [spt X]):=(zf4 L [spt X]).symm;rw[HL] at hown;obtain⟨a3,c3,hv3⟩:=zaf hown;subst hv3
   have Hb3:=zaa ((uh Hb2).grown hgrow (by have:=(uh Hb2).size;omega) (λj hj=>by
    rcases(uh Ho2).2 with ⟨h0,_⟩ | ⟨g0,c0,cur0,h0,hg0,_⟩
    ·simp only[Value.slice.injEq] at h0;obtain⟨rfl,-,-⟩:=h0;simp[Value.ownBlock] at hj
    ·simp only[Value.slice.injEq] at h0;obtain⟨rfl,-,-⟩:=h0;simp[Value.ownBlock] at hj
     omega))
   have Ho3:=zaa hown;clear hown hgrow hnil Ho2 Hb2 Hc HL;go_wp2_with fail;go_roundw
   case rel=>exact⟨k+1,by go_num,by omega,by
    rw[uh Hsn];have hh:=uh Ho3;have e9:(L ++ [spt X]).length=L.length+1:=by simp
    rw[e9]
    exact⟨a3,c3,rfl,hh⟩,uh Hb3⟩
   case measure=>simp[intOf];omega
  ·have hkl':¬ (k:Int)<(l.length:Int):=by omega
   obtain rfl:k=l.length:=by omega
   rw[zsN] at hown ⊢;have hlm:(l.map spt).length=l.length:=List.length_map _;have HC:=zaa (show Calls Tryz.prog 141 #[.slice a' (l.map spt).length c'] wr (λe w'=>∃ a2 c2,e=.returned (.slice a2 (zcI l).length c2)/\w'.ownsRow w.heap.size 121 2 (.slice a2 (zcI l).length c2) (zcI l).length (za9 (zcI l))/\Below w.heap.size wr w') from comp2S w.heap.size _ (l.map spt) wr hown hb.size (by rw[hlm];omega));have Hb:=zaa hb;clear hown hb;obtain⟨M,hM⟩:∃ M,M=zcI l:=⟨_,rfl⟩;rw[<- hM] at HC;have HM:=zaa hM;clear hM hlm;obtain⟨n,hn⟩:∃ n,n=(l.map spt).length:=⟨_,rfl⟩;rw[<- hn] at HC ⊢;clear hn;go_wp2_with fail;refine(uh HC).mono ?_;rintro e w2 ⟨a2,c2,rfl,hown2,hb2⟩;have Hf:=zaa (And.intro hown2 ((uh Hb).trans hb2));clear hown2 hb2 HC;go_wp2;go_ret;rw[<- uh HM];exact⟨a2,c2,rfl,(uh Hf).1,(uh Hf).2⟩
end Go.Proofs.YtieciibnajeibaaGreatDoor

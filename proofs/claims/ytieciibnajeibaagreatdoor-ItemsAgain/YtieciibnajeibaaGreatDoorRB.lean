import Derived.Test.YtieciibnajeibaaGreatDoorGJ
set_option maxHeartbeats 8000000
set_option maxRecDepth 100000
namespace Go.Proofs.YtieciibnajeibaaGreatDoor
open Go.RowKit
def zju(l:List It)(x:It):Nat:=(l.filter λy=>decide (ltI y x)).length
theorem zvz(l:List It)(x:It):zju l x<=l.length:=List.length_filter_le _ _
theorem zld:∀ {l:List It} {x:It} (_:UpI l) {n:Nat} (_:n<=l.length) (_:∀ j,j<n->ltI (l.getD j it0) x) (_:∀ j,n<=j->j<l.length->¬ ltI (l.getD j it0) x),zju l x=n
 | [],x,_,n,hn,_,_=>by simp at hn;subst hn;rfl
 | y::ys,x,h,n,hn,h1,h2=>by
   have h':=List.pairwise_cons.1 h;unfold zju
   cases n with
   | zero =>
     have hy:¬ ltI y x:=h2 0 (zsG _) (by simp);rw[List.filter_cons,if_neg (by rw[decide_eq_true_eq];exact hy)];rw[List.filter_eq_nil_iff.2 (λz hz=>by rw[decide_eq_true_eq];exact λhz'=>hy (zbr (h'.1 z hz) hz'))];rfl
   | succ n =>
     have hy:ltI y x:=h1 0 (Nat.succ_pos _);rw[List.filter_cons,if_pos (decide_eq_true hy),List.length_cons];have:=zld h'.2 (n:=n) (by simpa using hn) (λj hj=>by simpa using h1 (j+1) (by omega)) (λj hj hl=>by simpa using h2 (j+1) (by omega) (by simp;omega));unfold zju at this;omega
theorem zwm{l:List It}{x:It}(h:UpI l):x ∈ l↔zju l x<l.length/\l.getD (zju l x) it0=x:=by
 constructor
 ·intro hx;obtain⟨i,hi,rfl⟩:=zsT.1 hx;have e:l[i]=l.getD i it0:=by rw[zsE,zsF hi];rfl
  have hp:zju l l[i]=i:=zld h (by omega) (λj hj=>by rw[e];exact zdG h hj hi) (λj hj hl hz=>by
   by_cases ej:j=i
   ·subst ej;rw[e] at hz;exact zdN _ hz
   ·exact zgW hz (by rw[e];exact zdG h (by omega) hl))
  rw[hp];exact⟨hi,e.symm⟩
 ·rintro⟨h1,h2⟩;exact h2▸zbR h1
theorem zff(a b:It)(w:World):Calls Tryz.prog 101 #[itV a,itV b] w λe w'=>e=.returned (.bool (decide (ltI a b)))/\Below w.heap.size w w':=by
 obtain⟨p,d,k⟩:=a;obtain⟨p',d',k'⟩:=b;show Calls Tryz.prog 101 #[.agg #[.int .i64 p,.int .i64 d,.int .i64 k],.agg #[.int .i64 p',.int .i64 d',.int .i64 k']] w λe w'=>e=.returned (.bool (decide (ltI (p,d,k) (p',d',k'))))/\Below w.heap.size w w';have Hb:Hid (Below w.heap.size w ((w.alloc (.cells #[.int .i64 p,.int .i64 d,.int .i64 k] 57)).alloc (.cells #[.int .i64 p',.int .i64 d',.int .i64 k'] 57))):=zaa (((zsY _ _).alloc (zsG _) _).alloc (by simp) _);by_cases h1:p=p'
 ·subst h1;by_cases h2:d=d'
  ·subst h2;rw[show decide (ltI (p,d,k) (p,d,k'))=decide (k<k') from decide_eq_decide.2 (by unfold ltI;simp)];go_enter Tryz.func101,Tryz.ntmps101;go_wp2;go_ret;exact⟨rfl,uh Hb⟩
  ·rw[show decide (ltI (p,d,k) (p,d',k'))=decide (d<d') from decide_eq_decide.2 (by unfold ltI;simp[h2])];go_enter Tryz.func101,Tryz.ntmps101;go_wp2;go_ret;exact⟨rfl,uh Hb⟩
 ·rw[show decide (ltI (p,d,k) (p',d',k'))=decide (p<p') from decide_eq_decide.2 (by unfold ltI;simp[h1])];go_enter Tryz.func101,Tryz.ntmps101;go_wp2;go_ret;exact⟨rfl,uh Hb⟩
theorem zpt(a:Option Addr)(c:Nat)(l:List It)(hl:l.length<=281474976710656)(hup:UpI l)(x:It)(w:World)(h:zcy w.heap.size w a l) :
 Calls Tryz.prog 61 #[.slice a l.length c,itV x] w λe w'=>e=.returned (.int .i64 (zju l x:Nat))/\Below w.heap.size w w':=by
 obtain⟨P,hP⟩:∃ P,P=zju l x:=⟨_,rfl⟩;rw[<- hP];have hx:=zsH w (.cells #[.int .i64 x.1,.int .i64 x.2.1,.int .i64 x.2.2] 57);have hs1:(w.alloc (.cells #[.int .i64 x.1,.int .i64 x.2.1,.int .i64 x.2.2] 57)).heap.size=w.heap.size+1:=by simp
 have hb1:Below w.heap.size w (w.alloc (.cells #[.int .i64 x.1,.int .i64 x.2.1,.int .i64 x.2.2] 57)):=(zsY _ _).alloc (zsG _) _;have HP:=zaa hP;have H:=zaa h;have Hx:=zaa hx;have Hb1:=zaa hb1;have Hup:=zaa hup;clear hP h hx hb1 hup;have HL:=zaa (λy W=>zff y x W);unfold itV at HL ⊢;go_enter Tryz.func61,Tryz.ntmps61;go_wp2;generalize w.alloc (.cells #[.int .i64 x.1,.int .i64 x.2.1,.int .i64 x.2.2] 57)=w1 at *
 go_loopw [5,6] (λu v wr=>∃ f t:Nat,u=.int .i64 f/\v=.int .i64 t/\f<=t/\t<=l.length/\(∀ j,j<f->ltI (l.getD j it0) x)/\(∀ j,t<=j->j<l.length->¬ ltI (l.getD j it0) x)/\Below w1.heap.size w1 wr) (λu v _=>(intOf v).toNat - (intOf u).toNat)
 case atStart=>exact⟨0,l.length,rfl,rfl,zsK _,zsG _,λj hj=>absurd hj (Nat.not_lt_zero _),λj h1 h2=>absurd h2 (by omega),zsY _ _⟩
 case round =>
  obtain⟨f,t,rfl,rfl,hft,htl,h1,h2,hb⟩:=hrel;have H1:=zaa h1;have H2:=zaa h2;have Hb:=zaa hb;have hsz:=hb.size;clear h1 h2 hb;by_cases hlt:f<t
  ·have hlt':(f:Int)<(t:Int):=by omega
   obtain⟨m,hm⟩:∃ m:Nat,m=(f+t) / 2:=⟨_,rfl⟩;have hmf:f<=m/\m<t:=by omega
   have e1:IntKind.i64.wrap ((f:Int)+(t:Int))=((f+t:Nat):Int):=by rw[IntKind.wrap_i64];omega
   have hml:m<l.length:=by omega
   have hml':(m:Int)<l.length:=by omega
   have e4:((f:Int)+(t:Int)) / 2=(m:Int):=by omega
   clear hm;obtain⟨b,off,rfl,hbl,q0,q1,q2⟩:=zby (zaw ((uh Hb1).trans (zab (uh Hb) (uh Hb1).size)) (uh H)) hml;have x0:=((uh Hb).cell (p:=⟨w.heap.size,0,none⟩) (by show w.heap.size<_;omega)).trans (zac (uh Hx) 0 rfl);have x1:=((uh Hb).cell (p:=⟨w.heap.size,1,none⟩) (by show w.heap.size<_;omega)).trans (zac (uh Hx) 1 rfl);have x2:=((uh Hb).cell (p:=⟨w.heap.size,2,none⟩) (by show w.heap.size<_;omega)).trans (zac (uh Hx) 2 rfl);have Hmono:=zaa (λ(j:Nat) (h:j<m)=>zdG (uh Hup) h hml);have Hmon2:=zaa (λ(j:Nat) (h:m<j) (hj:j<l.length)=>zdG (uh Hup) h hj);by_cases hx:ltI (l.getD m it0) x
   ·have HC:=zaa (uh HL (l.getD m it0));rw[decide_eq_true hx] at HC
    have Hn1:Hid (∀ j,j<m+1->ltI (l.getD j it0) x):=zaa (λj hj=>by
     by_cases e:j=m
     ·rw[e];exact hx
     ·exact zbr (uh Hmono j (by omega)) hx)
    have e3:IntKind.i64.wrap (((m:Nat):Int)+1)=((m+1:Nat):Int):=by rw[IntKind.wrap_i64];omega
    clear hx Hmono Hmon2 H1;generalize l.getD m it0=y at *;have HK:Hid (∀ W:World,Below wr.heap.size wr W->W.cell? ⟨b,off+m * 3,none⟩=some (.int .i64 y.1)/\W.cell? ⟨b,off+m * 3+1,none⟩=some (.int .i64 y.2.1)/\W.cell? ⟨b,off+m * 3+2,none⟩=some (.int .i64 y.2.2)/\W.cell? ⟨w.heap.size,0,none⟩=some (.int .i64 x.1)/\W.cell? ⟨w.heap.size,1,none⟩=some (.int .i64 x.2.1)/\W.cell? ⟨w.heap.size,2,none⟩=some (.int .i64 x.2.2)):=zaa (λW hb=>⟨(hb.cell (p:=⟨b,_,none⟩) (by show b<_;omega)).trans q0,(hb.cell (p:=⟨b,_,none⟩) (by show b<_;omega)).trans q1,(hb.cell (p:=⟨b,_,none⟩) (by show b<_;omega)).trans q2,(hb.cell (p:=⟨w.heap.size,_,none⟩) (by show w.heap.size<_;omega)).trans x0,(hb.cell (p:=⟨w.heap.size,_,none⟩) (by show w.heap.size<_;omega)).trans x1,(hb.cell (p:=⟨w.heap.size,_,none⟩) (by show w.heap.size<_;omega)).trans x2⟩);go_wp2_with fail
    go_region_held3 (λW:World=>W.cell? ⟨b,off+m * 3,none⟩=some (.int .i64 y.1)/\W.cell? ⟨b,off+m * 3+1,none⟩=some (.int .i64 y.2.1)/\W.cell? ⟨b,off+m * 3+2,none⟩=some (.int .i64 y.2.2)/\W.cell? ⟨w.heap.size,0,none⟩=some (.int .i64 x.1)/\W.cell? ⟨w.heap.size,1,none⟩=some (.int .i64 x.2.1)/\W.cell? ⟨w.heap.size,2,none⟩=some (.int .i64 x.2.2))
     (first | exact⟨q0,q1,q2,x0,x1,x2⟩ | exact uh HK _ hS | fail)
     (first | (go_at_call 101;refine(uh HC _).mono ?_;rintro e W2 ⟨rfl,hb2⟩;have hS:Below wr.heap.size wr W2:=⟨hb2.os,hb2.tape,hb2.output,hb2.size,hb2.block⟩;have Hb3:=zaa ((uh Hb).trans (zab hS hsz))) | fail)
    go_wp2;go_roundw
    case rel=>exact⟨m+1,t,by go_num,rfl,by omega,htl,uh Hn1,uh H2,uh Hb3⟩
    case measure=>simp[intOf];omega
   ·have HC:=zaa (uh HL (l.getD m it0));rw[decide_eq_false hx] at HC
    have Hn2:Hid (∀ j,m<=j->j<l.length->¬ ltI (l.getD j it0) x):=zaa (λj hj hjl hz=>by
     by_cases e:j=m
     ·rw[e] at hz;exact hx hz
     ·exact hx (zbr (uh Hmon2 j (by omega) hjl) hz))
    clear hx Hmono Hmon2 H2;generalize l.getD m it0=y at *;have HK:Hid (∀ W:World,Below wr.heap.size wr W->W.cell? ⟨b,off+m * 3,none⟩=some (.int .i64 y.1)/\W.cell? ⟨b,off+m * 3+1,none⟩=some (.int .i64 y.2.1)/\W.cell? ⟨b,off+m * 3+2,none⟩=some (.int .i64 y.2.2)/\W.cell? ⟨w.heap.size,0,none⟩=some (.int .i64 x.1)/\W.cell? ⟨w.heap.size,1,none⟩=some (.int .i64 x.2.1)/\W.cell? ⟨w.heap.size,2,none⟩=some (.int .i64 x.2.2)):=zaa (λW hb=>⟨(hb.cell (p:=⟨b,_,none⟩) (by show b<_;omega)).trans q0,(hb.cell (p:=⟨b,_,none⟩) (by show b<_;omega)).trans q1,(hb.cell (p:=⟨b,_,none⟩) (by show b<_;omega)).trans q2,(hb.cell (p:=⟨w.heap.size,_,none⟩) (by show w.heap.size<_;omega)).trans x0,(hb.cell (p:=⟨w.heap.size,_,none⟩) (by show w.heap.size<_;omega)).trans x1,(hb.cell (p:=⟨w.heap.size,_,none⟩) (by show w.heap.size<_;omega)).trans x2⟩);go_wp2_with fail
    go_region_held3 (λW:World=>W.cell? ⟨b,off+m * 3,none⟩=some (.int .i64 y.1)/\W.cell? ⟨b,off+m * 3+1,none⟩=some (.int .i64 y.2.1)/\W.cell? ⟨b,off+m * 3+2,none⟩=some (.int .i64 y.2.2)/\W.cell? ⟨w.heap.size,0,none⟩=some (.int .i64 x.1)/\W.cell? ⟨w.heap.size,1,none⟩=some (.int .i64 x.2.1)/\W.cell? ⟨w.heap.size,2,none⟩=some (.int .i64 x.2.2))
     (first | exact⟨q0,q1,q2,x0,x1,x2⟩ | exact uh HK _ hS | fail)
     (first | (go_at_call 101;refine(uh HC _).mono ?_;rintro e W2 ⟨rfl,hb2⟩;have hS:Below wr.heap.size wr W2:=⟨hb2.os,hb2.tape,hb2.output,hb2.size,hb2.block⟩;have Hb3:=zaa ((uh Hb).trans (zab hS hsz))) | fail)
    go_wp2;go_roundw
    case rel=>exact⟨f,m,rfl,rfl,by omega,by omega,uh H1,uh Hn2,uh Hb3⟩
    case measure=>simp[intOf];omega
  ·have hlt':¬ (f:Int)<(t:Int):=by omega
   obtain rfl:P=f:=(uh HP).trans (zld (uh Hup) (by omega) (uh H1) (λj hj=>uh H2 j (by omega)));go_wp2;go_ret;exact⟨rfl,(uh Hb1).trans (zab (uh Hb) (uh Hb1).size)⟩
theorem zpc(y x:It)(w:World):(binOp .eql 57 (.agg #[.int .i64 y.1,.int .i64 y.2.1,.int .i64 y.2.2]) (.agg #[.int .i64 x.1,.int .i64 x.2.1,.int .i64 x.2.2])).run Tryz.prog w=.ok (.bool (decide (y=x))) w:=by
 rw[run_eql_struct,run_equalIn_agg w 9999 57 _ _ (by kernel_rfl) (by kernel_rfl)];unfold Program.fieldsOf;rw[Tryz.underlying57];simp[Op.eqFields,part,go_sem,Tryz.underlying3];obtain⟨y0,y1,y2⟩:=y;obtain⟨z0,z1,z2⟩:=x;simp only[Prod.mk.injEq];by_cases h0:y0=z0
 ·by_cases h1:y1=z1
  ·by_cases h2:y2=z2
   ·simp[h0,h1,h2]
   ·simp[h0,h1,h2]
  ·simp[h0,h1]
 ·simp[h0]
theorem ztA(a:Option Addr)(c:Nat)(l:List It)(hl:l.length<=281474976710656)(hup:UpI l)(x:It)(w:World)(h:zcy w.heap.size w a l) :
 Calls Tryz.prog 30 #[.slice a l.length c,itV x] w λe w'=>e=.returned (.bool (decide (x ∈ l)))/\Below w.heap.size w w':=by
 have hx:=zsH w (.cells #[.int .i64 x.1,.int .i64 x.2.1,.int .i64 x.2.2] 57);have hb1:Below w.heap.size w (w.alloc (.cells #[.int .i64 x.1,.int .i64 x.2.1,.int .i64 x.2.2] 57)):=(zsY _ _).alloc (zsG _) _
 have HPl:=zaa (zpt a c l hl hup x _ (show zcy (w.alloc (.cells #[.int .i64 x.1,.int .i64 x.2.1,.int .i64 x.2.2] 57)).heap.size _ a l from by
  rcases zaw hb1 h with h | ⟨b,off,h1,h2,h3⟩
  ·exact .inl h
  ·exact .inr ⟨b,off,h1,by simp;omega,h3⟩))
 unfold itV at HPl ⊢;go_enter Tryz.func30,Tryz.ntmps30;go_wp2_with fail;refine(uh HPl).mono ?_;rintro e W2 ⟨rfl,hb2⟩;have Hb2:=zaa (hb1.trans (zab hb2 hb1.size));have hs1:(w.alloc (.cells #[.int .i64 x.1,.int .i64 x.2.1,.int .i64 x.2.2] 57)).heap.size=w.heap.size+1:=by simp
 rw[hs1] at hb2;have x0:=(hb2.cell (p:=⟨w.heap.size,0,none⟩) (by show w.heap.size<_;omega)).trans (zac hx 0 rfl);have x1:=(hb2.cell (p:=⟨w.heap.size,1,none⟩) (by show w.heap.size<_;omega)).trans (zac hx 1 rfl);have x2:=(hb2.cell (p:=⟨w.heap.size,2,none⟩) (by show w.heap.size<_;omega)).trans (zac hx 2 rfl);have hle:=zvz l x;have HA:=zaa (zwm (x:=x) hup);have HI:=zaa (zaw (uh Hb2) h);clear hb1 hx hb2 h hup HPl hs1;by_cases hlt:zju l x<l.length
 ·obtain⟨b,off,rfl,hbl,q0,q1,q2⟩:=zby (uh HI) hlt;have hlt':decide (((zju l x:Nat):Int)<(l.length:Int))=true:=decide_eq_true (by omega);have hI:((zju l x:Nat):Int)<(l.length:Int):=by omega
  have heq:=zpc (l.getD (zju l x) it0) x;generalize zju l x=n at *;generalize l.getD n it0=y at *;go_wp2_with fail;go_quiet (fail);go_wp2;go_ret;refine⟨zbo ?_,zap (uh Hb2) _⟩;rw[decide_eq_decide];exact⟨λh=>(uh HA).2 ⟨hlt,h⟩,λh=>((uh HA).1 h).2⟩
 ·have hlt':decide (((zju l x:Nat):Int)<(l.length:Int))=false:=decide_eq_false (by omega);have hlt2:decide (zju l x<l.length)=false:=decide_eq_false hlt;have hlt3:¬ ((zju l x:Nat):Int)<(l.length:Int):=by omega
  have hv:decide (x ∈ l)=false:=decide_eq_false (λh=>hlt ((uh HA).1 h).1);clear HI HA hlt;generalize zju l x=n at *;go_wp2_with fail;go_quiet (fail);go_wp2;go_ret;exact⟨zbo hv.symm,zap (uh Hb2) _⟩
end Go.Proofs.YtieciibnajeibaaGreatDoor

/- The document's lists. -/
import Derived.Test.YtagohbpbgjelaaaGreatDoorA5
import Derived.Test.YtagohbpbgjelaaaGreatDoorA2
import Derived.Test.YtagohbpbgjelaaaGreatDoorP0
namespace Go.Proofs.YtagohbpbgjelaaaGreatDoor
open Go.RowKit

theorem zb2 {w:World} {B:Nat} {v:Value} {l:List Int} (h:w.ownsRow B 3 1 v l.length (zal l)):∃ a c,v=.slice a l.length c∧NRow w.heap.size w a l:=by
 obtain⟨a,c,rfl⟩:=zad h
 refine⟨a,c,rfl,?_⟩
 rcases h.2 with ⟨hv,hn⟩ | ⟨g,cap,cur,hv,hg,hh,-⟩
 ·exact .inl (List.eq_nil_of_length_eq_zero hn)
 ·cases hv
  refine .inr ⟨g,0,rfl,(Array.getElem?_eq_some_iff.1 hh).1,fun j hj=>?_⟩
  rw[Nat.zero_add,h.cellAt j (by omega)]
  simp[zal,List.getD_eq_getElem?_getD,hj]
theorem zqL {w:World} {B B' e e' s s' n m:Nat} {v v':Value} {xs ys:List Value} (h:w.ownsRow B e s v n xs) (h':w.ownsRow B' e' s' v' m ys) (hne:e≠e'):∀ k,v.ownBlock=some k→v'.ownBlock≠some k:=by
 intro k hk hk'
 rcases h.2 with ⟨rfl,-⟩ | ⟨g,cap,cur,rfl,-,hg,-⟩
 ·simp[Value.ownBlock] at hk
 ·rcases h'.2 with ⟨rfl,-⟩ | ⟨g',cap',cur',rfl,-,hg',-⟩
  ·simp[Value.ownBlock] at hk'
  ·simp[Value.ownBlock] at hk hk'
   subst hk
   subst hk'
   rw[hg] at hg'
   simp at hg'
   exact hne hg'.2
theorem zat {w w':World} {B B' e e' s s' n m:Nat} {v v':Value} {xs ys:List Value} (h:w.ownsRow B e s v n xs) (h':w.ownsRow B' e' s' v' m ys) (hg:w.grownBy w' v'.ownBlock) (hne:e≠e'):w'.ownsRow B e s v n xs:=by
 refine⟨h.1,?_⟩
 rcases h.2 with h0 | ⟨g,cap,cur,hv,h1,h2,rest⟩
 ·exact .inl h0
 ·exact .inr ⟨g,cap,cur,hv,h1,(hg.block g (Array.getElem?_eq_some_iff.1 h2).1 (fun e=>zqL h h' hne g (by rw[hv];rfl) e.symm)).trans h2,rest⟩
theorem zas {w w':World} {B e s n:Nat} {v:Value} {xs:List Value} (h:w.ownsRow B e s v n xs) (hb:Below w.heap.size w w'):w'.ownsRow B e s v n xs:=by
 refine⟨h.1,?_⟩
 rcases h.2 with h0 | ⟨g,cap,cur,hv,h1,h2,rest⟩
 ·exact .inl h0
 ·exact .inr ⟨g,cap,cur,hv,h1,(hb.block g (Array.getElem?_eq_some_iff.1 h2).1).trans h2,rest⟩
theorem zaK {w:World} {B B' e s n:Nat} {v:Value} {xs:List Value} (h:w.ownsRow B e s v n xs) (hB:B'≤B):w.ownsRow B' e s v n xs:=by
 refine⟨h.1,?_⟩
 rcases h.2 with h0 | ⟨g,cap,cur,hv,h1,rest⟩
 ·exact .inl h0
 ·exact .inr ⟨g,cap,cur,hv,by omega,rest⟩
def zlO (w:World) (a:Option Addr) (ll:List (List Int)):Prop :=
 ll=[]∨∃ b off,a=some ⟨b,off,none⟩∧b<w.heap.size∧∀ j,j<ll.length→∃ ra rc,w.cell? ⟨b,off+j,none⟩=some (.slice ra (ll.getD j []).length rc)∧NRow w.heap.size w ra (ll.getD j [])
theorem zhH {w w':World} {a:Option Addr} {l:List Int} (h:NRow w.heap.size w a l) (hb:Below w.heap.size w w'):NRow w'.heap.size w' a l:=by
 rcases zau hb h with h | ⟨b,off,h1,h2,h3⟩
 ·exact .inl h
 ·exact .inr ⟨b,off,h1,Nat.lt_of_lt_of_le h2 hb.size,h3⟩
def zfC (F:Nat→Nat→Bool) (nk n:Nat):List (List Int):=(List.range n).map fun r=>zip (zaC (F r) nk)

def zc7 (lo:Nat) (w W:World):Prop:=w.heap.size≤W.heap.size∧∀ k,lo≤k→k<w.heap.size→W.heap[k]? = w.heap[k]?
theorem ziA {lo:Nat} {a b c:World} (h:zc7 lo a b) (k:zc7 lo b c):zc7 lo a c:=⟨Nat.le_trans h.1 k.1,fun j h1 h2=>(k.2 j h1 (Nat.lt_of_lt_of_le h2 h.1)).trans (h.2 j h1 h2)⟩
theorem zeL {lo:Nat} {a b:World} (h:Below a.heap.size a b):zc7 lo a b:=⟨h.size,fun k _ hk=>h.block k hk⟩
theorem zln {lo:Nat} {O:Nat→Prop} {a b:World} (h:Fr O a b) (hO:∀ k,O k→k<lo):zc7 lo a b:=⟨h.1,fun k h1 h2=>h.2.1 k h2 (fun ho=>by have:=hO k ho;omega)⟩
theorem zga {w W:World} {B e s n:Nat} {v:Value} {xs:List Value} (h:w.ownsRow B e s v n xs) (hk:zc7 B w W):W.ownsRow B e s v n xs:=by
 refine⟨h.1,?_⟩
 rcases h.2 with h0 | ⟨g,cap,cur,hv,h1,h2,rest⟩
 ·exact .inl h0
 ·exact .inr ⟨g,cap,cur,hv,h1,(hk.2 g h1 (Array.getElem?_eq_some_iff.1 h2).1).trans h2,rest⟩

end Go.Proofs.YtagohbpbgjelaaaGreatDoor

namespace Go.Proofs.YtagohbpbgjelaaaGreatDoor
open Go.RowKit

theorem zn3 (a b:List UInt8):bs a ++ bs b=bs (a ++ b):=by
 apply ByteArray.ext
 rw[ByteArray.data_append]
 simp[bs]
theorem zjU (x y:List UInt8) (h:x.length+y.length≤9223372036854775807) (w:World):(Op.stringOp .add (bs x) (bs y)).run Tryz.prog w=.ok (.string (bs (x ++ y))) w:=by
 unfold Op.stringOp
 simp only
 rw[if_neg (by show ¬ ((((bs x).size+(bs y).size:Nat):Int) > 9223372036854775807);rw[zgx,zgx];omega),zn3]
 rfl
def zcy (ks rs:List (List UInt8)):List Int→List UInt8
 | []=>[]
 | x::xs=>32::(zji ks rs x ++ zcy ks rs xs)
theorem ze7 (ks rs:List (List UInt8)) (x:Int):∀ l,zcy ks rs (l ++ [x])=(zcy ks rs l ++ [32]) ++ zji ks rs x
 | []=>by simp[zcy]
 | y::ys=>by simp[zcy,ze7 ks rs x ys]
def zgL (G:Gm) (p:Pd):List UInt8:=(G.rules.getD p.left.toNat [] ++ [32,61]) ++ zcy G.kinds G.rules p.right
def zaW (G:Gm) (k:Nat):List (List UInt8):=(G.prods.take k).map (zgL G)
def zdv (G:Gm):List (List UInt8):=G.prods.map (zgL G)
def zaY (l:List (List UInt8)):List Value:=l.map fun s=>Value.string (bs s)
theorem zc9 (l:List (List UInt8)) (x:List UInt8):zaY l ++ [.string (bs x)]=zaY (l ++ [x]):=by simp[zaY]
theorem zhN {G:Gm} (h:za6 G=true):(∀ i,i<G.rules.length→(G.rules.getD i []).length≤4096)∧∀ i,i<G.kinds.length→(G.kinds.getD i []).length≤4096:=by
 have h:=of_decide_eq_true h
 have hk:=of_decide_eq_true h.1
 have hn:=of_decide_eq_true h.2.2.2.1
 refine⟨fun i hi=>(hn.2.2.1 i hi).2,fun i hi=>?_⟩
 have:=zkz (hk.2.2.2.2.1 i hi)
 rw[zgx] at this
 omega
theorem zmj {G:Gm} (h:za6 G=true) {x:Int} (h1:1≤x) (h2:x<(G.kinds.length+G.rules.length:Nat)):(zji G.kinds G.rules x).length≤4096:=by
 obtain⟨hr,hk⟩:=zhN h
 unfold zji
 split
 ·exact hk _ (by omega)
 ·exact hr _ (by omega)
theorem znv:(Tryz.prog.info? 9).map (fun i=>(i.zero,i.size,i.bytes))=some (some (.string ⟨#[]⟩),1,16):=by kernel_rfl
theorem zd8 {w:World} {B:Nat} {v:Value} {l:List (List UInt8)} (h:w.ownsRow B 9 1 v l.length (zaY l)):∃ a c,v=.slice a l.length c∧zez w.heap.size w a l:=by
 obtain⟨a,c,rfl⟩:=zad h
 refine⟨a,c,rfl,?_⟩
 rcases h.2 with ⟨hv,hn⟩ | ⟨g,cap,cur,hv,hg,hh,-⟩
 ·exact .inl (List.eq_nil_of_length_eq_zero hn)
 ·cases hv
  refine .inr ⟨g,0,rfl,(Array.getElem?_eq_some_iff.1 hh).1,fun j hj=>?_⟩
  rw[Nat.zero_add,h.cellAt j (by omega)]
  simp[zaY,List.getD_eq_getElem?_getD,hj]

set_option maxHeartbeats 2000000 in
set_option maxRecDepth 100000 in
theorem zmG (G:Gm) (hc:za6 G=false) (ka pa ra qa:Option Addr) (kc pc rc qc:Nat) (B:Nat) (w:World) (hB:B≤w.heap.size) (hin:GIn B w G ka pa ra qa) (hsm:∀ p,p ∈ G.prods→p.right.length≤281474976710656) :
 Calls Tryz.prog 21 #[.agg #[.slice ka G.kinds.length kc,.slice pa G.precs.length pc,.slice ra G.rules.length rc,.slice qa G.prods.length qc,.int .i64 G.start]] w fun e w'=>e=.returned (.tuple #[.slice none 0 0,.int .i64 130])∧Below w.heap.size w w':=by
 have hst:=zbt (kc:=kc) (pc:=pc) (rc:=rc) (qc:=qc) hB hin 26
 have d0:=hst.c0;have d1:=hst.c1;have d2:=hst.c2;have d3:=hst.c3;have d4:=hst.c4
 have hC:=zdc G ka pa ra qa kc pc rc qc B _ (by simp;omega) hst.gin hsm
 rw[show zbp G=130 by unfold zbp;rw[hc];rfl] at hC
 have HC:=zaa hC
 have hb1:=(Below.refl w.heap.size w).alloc (Nat.le_refl _) (.cells #[.slice ka G.kinds.length kc,.slice pa G.precs.length pc,.slice ra G.rules.length rc,.slice qa G.prods.length qc,.int .i64 G.start] 26)
 have Hb1:=zaa hb1
 clear hst hC hin hsm hc hb1
 go_enter Tryz.func21,Tryz.ntmps21
 go_wp2_with fail
 refine(uh HC).mono ?_
 rintro e w2 ⟨rfl,hb2⟩
 have Hb2:=zaa ((uh Hb1).trans (zab hb2 (by simp)))
 clear hb2
 go_wp2
 refine bodyPost_ret (v:=.tuple #[.slice none 0 0,.int .i64 130]) ?zz8 rfl ⟨rfl,uh Hb2⟩
 case zz8=>simp[results,Tryz.results21,go_sem]

set_option maxHeartbeats 4000000 in
set_option maxRecDepth 100000 in
theorem zle (G:Gm) (hc:za6 G=true) (ka pa ra qa:Option Addr) (kc pc rc qc:Nat) (B:Nat) (w:World) (hB:B≤w.heap.size) (hin:GIn B w G ka pa ra qa) :
 Calls Tryz.prog 21 #[.agg #[.slice ka G.kinds.length kc,.slice pa G.precs.length pc,.slice ra G.rules.length rc,.slice qa G.prods.length qc,.int .i64 G.start]] w fun e w'=>∃ a c,e=.returned (.tuple #[.slice a (zdv G).length c,.int .i64 0])∧zez w'.heap.size w' a (zdv G)∧Below w.heap.size w w':=by
 have hG:=zbS hc
 have hqs:=hG.ps;have hnr:=hG.r2;have hnk:=hG.k3
 unfold Gm.nr at hnr
 unfold Gm.nk at hnk
 obtain⟨i0,hi,hz0,hz1,hz2⟩:=zao znv
 have hst:=zbt (kc:=kc) (pc:=pc) (rc:=rc) (qc:=qc) hB hin 26
 have d0:=hst.c0;have d1:=hst.c1;have d2:=hst.c2;have d3:=hst.c3;have d4:=hst.c4
 have hw1:(w.alloc (.cells #[.slice ka G.kinds.length kc,.slice pa G.precs.length pc,.slice ra G.rules.length rc,.slice qa G.prods.length qc,.int .i64 G.start] 26)).heap.size=w.heap.size+1:=by simp
 have hC:=zdc G ka pa ra qa kc pc rc qc B _ (by simp;omega) hst.gin (fun p hp=>by have:=hG.pr p hp;omega)
 rw[show zbp G=0 by unfold zbp;rw[hc];rfl] at hC
 have HC:=zaa hC
 have hb1:=(Below.refl w.heap.size w).alloc (Nat.le_refl _) (.cells #[.slice ka G.kinds.length kc,.slice pa G.precs.length pc,.slice ra G.rules.length rc,.slice qa G.prods.length qc,.int .i64 G.start] 26)
 have Hb1:=zaa hb1;have HG:=zaa hG;have Hc:=zaa hc;have Hst:=zaa hst
 have hnm:=zhN hc
 have Hnm:=zaa hnm
 clear hst hC hin hc hb1 hG hnm
 go_enter Tryz.func21,Tryz.ntmps21
 go_wp2_with fail
 clear d0 d1 d2 d3 d4
 generalize w.alloc (.cells #[.slice ka G.kinds.length kc,.slice pa G.precs.length pc,.slice ra G.rules.length rc,.slice qa G.prods.length qc,.int .i64 G.start] 26)=w1 at *
 refine(uh HC).mono ?_
 rintro e w2 ⟨rfl,hb2⟩
 rw[hw1] at hb2
 have Hb2:=zaa hb2
 have hsz2:=hb2.size
 clear hb2 HC
 go_wp2
 go_loopw [4,5,6,7] (fun o x _ _ wr=>∃ k:Nat,x=.int .i64 k∧k≤G.prods.length∧wr.ownsRow (w.heap.size+1) 9 1 o (zaW G k).length (zaY (zaW G k))∧Below (w.heap.size+1) w1 wr) (fun _ x _ _ _=>G.prods.length - (intOf x).toNat)
 case atStart=>exact⟨0,rfl,Nat.zero_le _,World.ownsRow_nil _ _ _ _,uh Hb2⟩
 case round =>
  clear Hb2
  obtain⟨k,rfl,hk,hown,hb⟩:=hrel
  obtain⟨ua,uc,rfl⟩:=zad hown
  have hst2:=zan hb hB (uh Hst)
  have g0:=hst2.c0;have g1:=hst2.c1;have g2:=hst2.c2;have g3:=hst2.c3;have g4:=hst2.c4
  have Hgin:=zaa hst2.gin
  have hsz:=hb.size
  have Hlk:Hid ((zaW G k).length=k):=zaa (by simp[zaW];omega)
  have Hown:=zaa hown;have Hb:=zaa hb
  clear hown hb hst2
  by_cases hlt:k<G.prods.length
  ·have hlt':(k:Int)<G.prods.length:=by omega
   obtain⟨b,off,rfl,hbB,rr,rrc,x3,x4,x5,x6,n6,c6,hrr,hac,q0,q1,q2,q3,q4,q5,q6⟩:=zbz (uh Hgin).prods hlt
   obtain⟨hl0,hl1⟩:=(uh HG).pl _ (zag hlt)
   have hpr:=(uh HG).pr _ (zag hlt)
   have hpy:=(uh HG).py _ (zag hlt)
   have Hsn:Hid (zaW G (k+1)=zaW G k ++ [zgL G (G.prods.getD k pd0)]):=zaa (by unfold zaW;rw[zbf _ _ pd0 hlt,List.map_append];rfl)
   generalize G.prods.getD k pd0=p at *
   obtain⟨pl,prt,plv,pac⟩:=p
   simp only at hl0 hl1 hpr hpy hrr hac q0 q1 q2
   obtain⟨l,rfl⟩:∃ l:Nat,pl=(l:Int):=⟨pl.toNat,by omega⟩
   have hl2:l<G.rules.length:=by unfold Gm.nr at hl1;omega
   have hl1':(l:Int)<G.rules.length:=by omega
   obtain⟨rb,roff,hra,hrbB,cr⟩:=zcb (uh Hgin).rules hl2
   have hnl:=(uh Hnm).1 l hl2
   have Hln:Hid (zgL G ⟨(l:Int),prt,plv,pac⟩=(G.rules.getD l [] ++ [32,61]) ++ zcy G.kinds G.rules prt):=zaa rfl
   have ha1:=zjU (G.rules.getD l []) [32,61] (by show _+2≤_;omega)
   have ha1:∀ w,(Op.stringOp .add (bs (G.rules.getD l [])) ⟨#[32,61]⟩).run Tryz.prog w=_:=ha1
   obtain⟨base,hbase⟩:∃ base,base=G.rules.getD l [] ++ [32,61]:=⟨_,rfl⟩
   have hbl:base.length≤4098:=by rw[hbase,List.length_append];show _+2≤_;omega
   rw[← hbase] at ha1 Hln
   clear hbase
   generalize zgL G ⟨(l:Int),prt,plv,pac⟩=LS at *
   generalize G.rules.getD l []=rn at *
   subst hra
   go_wp2
   go_quiet (fail)
   have Hst3:=zaa (zan (zaq (uh Hb) nq) hB (uh Hst))
   have Hrr:=zaa (zau (w':=wr.drewN nq) (zaq (Below.refl _ _) nq) hrr)
   have Hown3:=zaa (show (wr.drewN nq).ownsRow (w.heap.size+1) 9 1 (.slice ua (zaW G k).length uc) (zaW G k).length (zaY (zaW G k)) from uh Hown)
   have hq1':(wr.drewN nq).cell? _=_:=q1
   have hsz3:w1.heap.size≤(wr.drewN nq).heap.size:=hsz
   have Hb3:=zaa (zaq (uh Hb) nq)
   have Hq1:=zaa hq1'
   clear g0 g1 g2 g3 g4 q0 q1 q2 q3 q4 q5 q6 hrr hac cr ha1 Hown Hb hq1' hsz Hgin
   generalize wr.drewN nq=wd at *
   generalize zaW G k=LT at *
   go_wp2
   go_loopw [6,7] (fun sv y W=>∃ j:Nat,sv=.string (bs (base ++ zcy G.kinds G.rules (prt.take j)))∧y=.int .i64 j∧j≤prt.length∧(base ++ zcy G.kinds G.rules (prt.take j)).length≤4098+j * 4097∧Below wd.heap.size wd W) (fun _ y _=>prt.length - (intOf y).toNat)
   case atStart=>exact⟨0,by simp[zcy],rfl,Nat.zero_le _,by simp[zcy];omega,Below.refl _ _⟩
   case round =>
    obtain⟨j,rfl,rfl,hj,hjl,hbj⟩:=hrel
    have hstj:=zan (zab hbj (by omega)) hB (uh Hst3)
    have g0:=hstj.c0;have g1:=hstj.c1;have g2:=hstj.c2;have g3:=hstj.c3;have g4:=hstj.c4
    have q1:=(hbj.cell (p:=⟨b,off+k * 7+1,none⟩) (by show b<wd.heap.size;omega)).trans (uh Hq1)
    have Hbj:=zaa hbj
    have Hginj:=zaa hstj.gin
    clear hstj hbj
    by_cases hjt:j<prt.length
    ·have hjt':(j:Int)<prt.length:=by omega
     obtain⟨rb2,ro2,rfl,hrb2,hcx⟩:=za3 (zau (zab (uh Hbj) (by omega)) (uh Hrr)) hjt
     have hx:=hpy _ (za5 hjt)
     have Hsn2:Hid (base ++ zcy G.kinds G.rules (prt.take (j+1))=((base ++ zcy G.kinds G.rules (prt.take j)) ++ [32]) ++ zji G.kinds G.rules (prt.getD j 0)):=zaa (by rw[zbf _ _ 0 hjt,ze7];simp)
     have hsl:=zmj (uh Hc) hx.1 hx.2
     have HY:Hid (∀ W:World,Below wr.heap.size wr W→Calls Tryz.prog 62 #[.agg #[.slice ka G.kinds.length kc,.slice pa G.precs.length pc,.slice (some ⟨rb,roff,none⟩) G.rules.length rc,.slice (some ⟨b,off,none⟩) G.prods.length qc,.int .i64 G.start],.int .i64 (prt.getD j 0)] W fun e w'=>e=.returned (.string (bs (zji G.kinds G.rules (prt.getD j 0))))∧Below W.heap.size W w'):=zaa (fun W hW=>by
      have:=(uh Hbj).size
      have:=hW.size
      exact zjp G ka pa _ _ kc pc rc qc hnr (prt.getD j 0) hx B W (by omega) (zeP (zab hW (by omega)) (uh Hginj)))
     generalize prt.getD j 0=x at *
     generalize zji G.kinds G.rules x=sn at *
     generalize base ++ zcy G.kinds G.rules (prt.take j)=cur at *
     have ha2:∀ w,(Op.stringOp .add (bs cur) ⟨#[32]⟩).run Tryz.prog w=_:=zjU cur [32] (by show _+1≤_;omega)
     have ha3:=zjU (cur ++ [32]) sn (by rw[List.length_append];show _+1+_≤_;omega)
     have Hlen2:Hid (((cur ++ [32]) ++ sn).length≤4098+(j+1) * 4097):=zaa (by rw[List.length_append,List.length_append];show _+1+_≤_;omega)
     generalize cur ++ [32]=n1 at *
     generalize n1 ++ sn=n2 at *
     have HS:Hid (∀ W:World,Below wr.heap.size wr W→W.cell? ⟨w.heap.size,0,none⟩=some (.slice ka G.kinds.length kc)∧W.cell? ⟨w.heap.size,1,none⟩=some (.slice pa G.precs.length pc)∧W.cell? ⟨w.heap.size,2,none⟩=some (.slice (some ⟨rb,roff,none⟩) G.rules.length rc)∧W.cell? ⟨w.heap.size,3,none⟩=some (.slice (some ⟨b,off,none⟩) G.prods.length qc)∧W.cell? ⟨w.heap.size,4,none⟩=some (.int .i64 G.start)∧W.cell? ⟨b,off+k * 7+1,none⟩=some (.slice (some ⟨rb2,ro2,none⟩) prt.length rrc)∧W.cell? ⟨rb2,ro2+j,none⟩=some (.int .i64 x)):=zaa (fun W hW=>by
      have hl:=(uh Hbj).size
      exact⟨(hW.cell (p:=⟨w.heap.size,0,none⟩) (by show w.heap.size<wr.heap.size;omega)).trans g0,(hW.cell (p:=⟨w.heap.size,1,none⟩) (by show w.heap.size<wr.heap.size;omega)).trans g1,(hW.cell (p:=⟨w.heap.size,2,none⟩) (by show w.heap.size<wr.heap.size;omega)).trans g2,(hW.cell (p:=⟨w.heap.size,3,none⟩) (by show w.heap.size<wr.heap.size;omega)).trans g3,(hW.cell (p:=⟨w.heap.size,4,none⟩) (by show w.heap.size<wr.heap.size;omega)).trans g4,(hW.cell (p:=⟨b,off+k * 7+1,none⟩) (by show b<wr.heap.size;omega)).trans q1,(hW.cell (p:=⟨rb2,ro2+j,none⟩) (by show rb2<wr.heap.size;omega)).trans hcx⟩)
     have hS:Below wr.heap.size wr wr.drew:=(Below.refl _ _).drew
     go_wp2
     clear g0 g1 g2 g3 g4 q1 hcx
     go_region_held3 (fun W:World=>W.cell? ⟨w.heap.size,0,none⟩=some (.slice ka G.kinds.length kc)∧W.cell? ⟨w.heap.size,1,none⟩=some (.slice pa G.precs.length pc)∧W.cell? ⟨w.heap.size,2,none⟩=some (.slice (some ⟨rb,roff,none⟩) G.rules.length rc)∧W.cell? ⟨w.heap.size,3,none⟩=some (.slice (some ⟨b,off,none⟩) G.prods.length qc)∧W.cell? ⟨w.heap.size,4,none⟩=some (.int .i64 G.start)∧W.cell? ⟨b,off+k * 7+1,none⟩=some (.slice (some ⟨rb2,ro2,none⟩) prt.length rrc)∧W.cell? ⟨rb2,ro2+j,none⟩=some (.int .i64 x))
      (first | exact uh HS _ hS | fail)
      (first
       | (go_at_call 62;refine(uh HY _ hS).mono ?_;rintro e W3 ⟨rfl,hb3⟩;have hS:=hS.trans (zab hb3 hS.size);clear hb3)
       | fail)
     all_goals
      go_wp2
      go_roundw
      case rel=>exact⟨j+1,by rw[uh Hsn2],by go_num,by omega,by rw[uh Hsn2];exact uh Hlen2,(uh Hbj).trans (zab hS (uh Hbj).size)⟩
      case measure=>simp[intOf];omega
    ·obtain rfl:j=prt.length:=by omega
     have Hfin:Hid (base ++ zcy G.kinds G.rules (prt.take prt.length)=LS):=zaa (by rw[List.take_length];exact(uh Hln).symm)
     rw[uh Hfin]
     rw[uh Hfin] at hjl
     have hownW:=zas (uh Hown3) (uh Hbj)
     have hszW:=(uh Hbj).size
     have HbW:=zaa ((uh Hb3).trans (zab (uh Hbj) (by omega)))
     have HownW:=zaa hownW
     have hlk2:LT.length≤4096:=by have:=uh Hlk;omega
     clear hownW
     go_wp2_with (at_builtin;refine wpList_append_own _ rfl _ _ 22 rfl (w.heap.size+1) 9 i0 (.string ⟨#[]⟩) 1 16 Tryz.underlying22 hi hz0 hz1 hz2 rfl (by decide) _ _ _ rfl ((uh HownW).alloc _) ⟨wr.heap.size,0,none⟩ 1 1 [.string (bs LS)] rfl rfl ?zc1 ?zc2 ?zc3 ?zc4 ?zc5 ?_)
     case zc1=>exact ziC _ _ _
     case zc2=>intro u hu;simp at hu;rcases hu with rfl;rfl
     case zc3=>unfold maxLen;omega
     case zc4=>omega
     case zc5=>simp;omega
     intro v' W3 hown' hgrow _
     have Hb4:=zaa (((uh HbW).alloc (by omega) _).grown hgrow (by simp;omega) (fun j hj=>((uh HownW).lt j hj).1))
     have Ho4:=zaa (show W3.ownsRow (w.heap.size+1) 9 1 v' (zaW G (k+1)).length (zaY (zaW G (k+1))) by rw[uh Hsn,← zc9,List.length_append];exact hown')
     clear hown' hgrow
     go_wp2
     go_roundw
     case rel=>exact⟨k+1,by go_num,by omega,uh Ho4,uh Hb4⟩
     case measure=>simp[intOf];omega
  ·obtain rfl:k=G.prods.length:=by omega
   have Hlen:Hid (zaW G G.prods.length=zdv G):=zaa (by unfold zaW zdv;rw[List.take_length])
   obtain⟨a,c,hv,hs⟩:=zd8 (uh Hown)
   cases hv
   have Hs:=zaa hs
   clear hs Hlk
   generalize zaW G G.prods.length=LL at *
   go_wp2
   refine bodyPost_ret (v:=.tuple #[.slice ua LL.length uc,.int .i64 0]) ?zz9 rfl ⟨ua,uc,?_⟩
   case zz9=>simp[results,Tryz.results21,go_sem]
   rw[← uh Hlen]
   exact⟨rfl,uh Hs,(uh Hb1).trans (zab (uh Hb) (by omega))⟩
end Go.Proofs.YtagohbpbgjelaaaGreatDoor

namespace Go.Proofs.YtagohbpbgjelaaaGreatDoor
open Go.RowKit

set_option maxRecDepth 100000 in
theorem zoH (xb xo n c q:Nat) (h:q≤c) (w:World):(Instr.slice 27 (.slice (some ⟨xb,xo,none⟩) n c) none (some (.int .i64 (q:Int))) none).run Tryz.prog w=.ok (.slice (some ⟨xb,xo,none⟩) q c) w:=by
 rw[run_slice_h w 27 (some ⟨xb,xo,none⟩) n c Tryz.underlying27 .i64 (q:Int) (by omega) (by omega)]
 simp[go_sem,Addr.add]
set_option maxRecDepth 100000 in
theorem zfL (l:List Int):∀ u ∈ zal l,u.oneCell'=true:=by
 intro u hu
 obtain⟨x,-,rfl⟩:=List.mem_map.1 hu
 rfl
set_option maxRecDepth 100000 in
theorem zaf {P:Program} {w:World} {ops:Array Oper} {o:Oper} {a:Act} {K:Act→World→Prop} {Q:Exit→Act→World→Prop} {E:Prop} (hgd:o.guard=none) (s x:Operand) (t:TypeId)
 (ho:o.op=.call { callee:=.builtin .append,args:=#[s,x],argTypes:=#[t,t] })
 (base:Nat) (e:TypeId) (i:TypeInfo) (z:Value) (size bytes:Nat) (ht:P.underlying t=some (.slice e)) (hi:P.info? e=some i) (hz:i.zero=some z)
 (hsize:i.size=size) (hby:i.bytes=bytes) (hzs:z.cells.size=size) (hsz:0<size)
 (v:Value) (n:Nat) (xs:List Value) (hs:a.eval s=v) (hown:w.ownsRow base e size v n xs)
 (ad:Addr) (m c:Nat) (news:List Value) (hx:a.eval x=.slice (some ad) m c) (hl:news.length=m * size) (hnews:∀ j u,news[j]? = some u→w.cell? (ad.add j)=some u) (h1:∀ u ∈ news,u.oneCell'=true)
 (h63:n+m≤maxLen) (hbytes:(n+m) * bytes≤140737488355328) (hbase:base≤w.heap.size)
 (h:∀ v' w',w'.ownsRow base e size v' (n+m) (xs ++ news)→w.grownBy w' v.ownBlock→(v'=.slice none 0 0↔v=.slice none 0 0∧m=0)→K (a.put o.dst v') w') :
 if Region.wanted o (yielded ops a.tmps)=true then Oper.wp P o a w K Q else E:=by
 have hw:Region.wanted o (yielded ops a.tmps)=true:=by simp[Region.wanted,hgd]
 rw[if_pos hw]
 exact wp_append_own w s x t ho base e i z size bytes ht hi hz hsize hby hzs hsz v n xs hs hown ad m c news hx hl hnews h1 h63 hbytes hbase h

end Go.Proofs.YtagohbpbgjelaaaGreatDoor

namespace Go.Proofs.YtagohbpbgjelaaaGreatDoor
open Go.RowKit

set_option maxRecDepth 100000 in
theorem zaw {w w':World} {b t n:Nat} {f:Nat→Value} (h:w.rowIs b t n f) (hb:Below w.heap.size w w'):w'.rowIs b t n f:=h.of_block (hb.block _ h.lt)

set_option maxRecDepth 100000 in
theorem zq0 {G:Gm} {ka pa ra qa:Option Addr} (kc pc rc qc:Nat) {B:Nat} {w w1:World} (hB:B≤w.heap.size) (hin:GIn B w G ka pa ra qa) (hw:w1=(w.alloc (.cells #[.slice ka G.kinds.length kc,.slice pa G.precs.length pc,.slice ra G.rules.length rc,.slice qa G.prods.length qc,.int .i64 G.start] 26)).alloc (.cells #[.slice none 0 0,.slice none 0 0,.slice none 0 0,.slice none 0 0,.slice none 0 0,.slice none 0 0] 31)) :
 GSt B w1 G ka kc pa pc ra rc qa qc w.heap.size∧Below w.heap.size w w1∧w1.heap.size=w.heap.size+2∧w1.heap[w.heap.size+1]? = some (.cells #[.slice none 0 0,.slice none 0 0,.slice none 0 0,.slice none 0 0,.slice none 0 0,.slice none 0 0] 31):=by
 have hst:=zbt (kc:=kc) (pc:=pc) (rc:=rc) (qc:=qc) hB hin 26
 have h1:(w.alloc (.cells #[.slice ka G.kinds.length kc,.slice pa G.precs.length pc,.slice ra G.rules.length rc,.slice qa G.prods.length qc,.int .i64 G.start] 26)).heap.size=w.heap.size+1:=by simp
 subst hw
 refine⟨zan ((Below.refl _ _).alloc (by omega) _) hB hst,((Below.refl _ _).alloc (Nat.le_refl _) _).alloc (by omega) _,by simp,?_⟩
 rw[← h1]
 exact Go.Deep.blk_alloc_new _ _

end Go.Proofs.YtagohbpbgjelaaaGreatDoor

namespace Go.Proofs.YtagohbpbgjelaaaGreatDoor
open Go.RowKit

set_option maxRecDepth 100000 in
theorem zfX {w:World} {b:Nat} {t:TypeId} {a0 a1 a2 a3 a4 a5:Value} (h:w.heap[b]? = some (.cells #[a0,a1,a2,a3,a4,a5] t)):w.cell? ⟨b,0,none⟩=some a0∧w.cell? ⟨b,1,none⟩=some a1∧w.cell? ⟨b,2,none⟩=some a2∧w.cell? ⟨b,3,none⟩=some a3∧w.cell? ⟨b,4,none⟩=some a4∧w.cell? ⟨b,5,none⟩=some a5∧w.frozen? ⟨b,0,none⟩=false∧w.frozen? ⟨b,1,none⟩=false∧w.frozen? ⟨b,2,none⟩=false∧w.frozen? ⟨b,3,none⟩=false∧w.frozen? ⟨b,4,none⟩=false∧w.frozen? ⟨b,5,none⟩=false:=by
 refine⟨?_,?_,?_,?_,?_,?_,?_,?_,?_,?_,?_,?_⟩ <;> (first | (unfold World.cell?;rw[h];rfl) | (unfold World.frozen?;rw[h];rfl))
set_option maxRecDepth 100000 in
theorem zaI {w:World} {b i:Nat} {t:TypeId} {c:Array Value} (h:w.heap[b]? = some (.cells c t)) (v:Value):(w.setCell ⟨b,i,none⟩ v).heap[b]? = some (.cells (c.setIfInBounds i v) t):=by
 simp[World.setCell,Array.getElem?_modify,h]
set_option maxRecDepth 100000 in
theorem set6 {w:World} {b:Nat} {t:TypeId} {a0 a1 a2 a3 a4 a5:Value} (h:w.heap[b]? = some (.cells #[a0,a1,a2,a3,a4,a5] t)) (v0 v1 v2 v3 v4 v5:Value) :
 ((((((w.setCell ⟨b,0,none⟩ v0).setCell ⟨b,1,none⟩ v1).setCell ⟨b,2,none⟩ v2).setCell ⟨b,3,none⟩ v3).setCell ⟨b,4,none⟩ v4).setCell ⟨b,5,none⟩ v5).heap[b]? = some (.cells #[v0,v1,v2,v3,v4,v5] t)∧Fr (· = b) w ((((((w.setCell ⟨b,0,none⟩ v0).setCell ⟨b,1,none⟩ v1).setCell ⟨b,2,none⟩ v2).setCell ⟨b,3,none⟩ v3).setCell ⟨b,4,none⟩ v4).setCell ⟨b,5,none⟩ v5) :=
 ⟨zaI (zaI (zaI (zaI (zaI (zaI h v0) v1) v2) v3) v4) v5,zaz (zaz (zaz (zaz (zaz (zaz (zav (· = b) w) (by rfl) _) (by rfl) _) (by rfl) _) (by rfl) _) (by rfl) _) (by rfl) _⟩
set_option maxRecDepth 100000 in
theorem zfp {w w':World} {b k t n:Nat} {f:Nat→Value} (h:w.rowIs b t n f) (hf:Fr (· = k) w w') (hne:b≠k):w'.rowIs b t n f:=h.of_block (hf.2.1 _ h.lt hne)
set_option maxRecDepth 100000 in
theorem zij {w:World} {b k t e n:Nat} {c:Array Value} {f:Nat→Value} (h:w.heap[b]? = some (.cells c t)) (hr:w.rowIs k e n f) (hne:e≠t):k≠b:=by
 intro hk
 subst hk
 obtain⟨c',h',-⟩:=hr
 rw[h] at h'
 simp at h'
 exact hne h'.2.symm

end Go.Proofs.YtagohbpbgjelaaaGreatDoor

namespace Go.Proofs.YtagohbpbgjelaaaGreatDoor
open Go.RowKit

set_option maxRecDepth 100000 in
theorem zgC (b j:Nat):Addr.add ⟨b,0,none⟩ j=⟨b,j,none⟩:=by cases j <;> simp[Addr.add]
end Go.Proofs.YtagohbpbgjelaaaGreatDoor

namespace Go.Proofs.YtagohbpbgjelaaaGreatDoor
open Go.RowKit

def eqTo {α:Type} (d:α) (a b:List α) (k:Nat):Prop:=∀ j,j<k→a.getD j d=b.getD j d
theorem eq_of {α:Type} {d:α} {a b:List α} (hl:a.length=b.length) (h:eqTo d a b a.length):a=b:=by
 apply List.ext_getElem hl
 intro j h1 h2
 have:=h j h1
 rwa [List.getD_eq_getElem?_getD,List.getD_eq_getElem?_getD,List.getElem?_eq_getElem h1,List.getElem?_eq_getElem h2] at this

set_option maxHeartbeats 1000000 in
set_option maxRecDepth 100000 in
theorem zhw (a b:Option Addr) (ca cb:Nat) (l m:List Int) (hl:l.length≤281474976710656) (w:World) (h1:NRow w.heap.size w a l) (h2:NRow w.heap.size w b m) :
 Calls Tryz.prog 16 #[.slice a l.length ca,.slice b m.length cb] w fun e w'=>e=.returned (.bool (decide (l=m)))∧∃ q,w'=w.drewN q:=by
 by_cases hlen:l.length=m.length
 ·have hlen':((l.length:Int) != m.length)=false:=by simp;omega
  have Hyes:=zaa (fun(h:eqTo 0 l m l.length)=>show decide (l=m)=true from decide_eq_true (eq_of hlen h))
  have Hno:=zaa (fun(j:Nat) (h:l.getD j 0≠m.getD j 0)=>show decide (l=m)=false from decide_eq_false (fun e=>h (by rw[e])))
  have H1:=zaa h1;have H2:=zaa h2
  clear h1 h2
  generalize decide (l=m)=R at *
  go_enter Tryz.func16,Tryz.ntmps16
  go_wp2
  go_loopw [5] (fun x wr=>∃ k:Nat,x=.int .i64 k∧k≤l.length∧eqTo 0 l m k∧∃ q,wr=w.drewN q) (fun x _=>l.length - (intOf x).toNat)
  case atStart=>exact⟨0,rfl,Nat.zero_le _,fun j hj=>absurd hj (Nat.not_lt_zero _),0,rfl⟩
  case round =>
   obtain⟨k,rfl,hk,heq,q,rfl⟩:=hrel
   have Heq:=zaa heq
   clear heq
   by_cases hlt:k<l.length
   ·have hlt':(k:Int)<l.length:=by omega
    have hlt2':(k:Int)<m.length:=by omega
    obtain⟨b1,o1,rfl,hb1,c1⟩:=za3 (uh H1) hlt
    obtain⟨b2,o2,rfl,hb2,c2⟩:=za3 (uh H2) (k:=k) (by omega)
    have d1:(w.drewN q).cell? ⟨b1,o1+k,none⟩=some (.int .i64 (l.getD k 0)):=c1
    have d2:(w.drewN q).cell? ⟨b2,o2+k,none⟩=some (.int .i64 (m.getD k 0)):=c2
    clear c1 c2
    by_cases he:l.getD k 0=m.getD k 0
    ·have Hs:Hid (eqTo 0 l m (k+1)):=zaa (fun j hj=>by
      by_cases e:j=k
      ·subst e;exact he
      ·exact uh Heq j (by omega))
     rw[he] at d1
     clear he
     generalize m.getD k 0=x at *
     generalize hW:w.drewN q=W at *
     go_wp2
     go_quiet (fail)
     go_wp2
     go_roundw
     case rel=>exact⟨k+1,by go_num,by omega,uh Hs,q+nq,by rw[← hW,World.drewN_drewN]⟩
     case measure=>simp[intOf];omega
    ·have Hr:=zaa (uh Hno k he)
     have hne:(l.getD k 0 != m.getD k 0)=true:=by simpa using he
     clear he
     generalize m.getD k 0=x at *
     generalize l.getD k 0=y at *
     generalize hW:w.drewN q=W at *
     go_wp2
     go_quiet (fail)
     go_wp2
     go_ret
     rw[uh Hr]
     exact⟨rfl,q+nq,by rw[← hW,World.drewN_drewN]⟩
   ·obtain rfl:k=l.length:=by omega
    have Hr:=zaa (uh Hyes (uh Heq))
    go_wp2
    go_ret
    rw[uh Hr]
    exact⟨rfl,q,rfl⟩
 ·have hlen':((l.length:Int) != m.length)=true:=by simp;omega
  have Hr:Hid (decide (l=m)=false):=zaa (decide_eq_false (fun e=>hlen (by rw[e])))
  generalize decide (l=m)=R at *
  clear hlen
  go_enter Tryz.func16,Tryz.ntmps16
  go_wp2
  go_ret
  rw[uh Hr]
  exact⟨rfl,0,rfl⟩
end Go.Proofs.YtagohbpbgjelaaaGreatDoor

namespace Go.Proofs.YtagohbpbgjelaaaGreatDoor
open Go.RowKit

set_option maxHeartbeats 1000000 in
set_option maxRecDepth 100000 in
theorem zdl (a b:Option Addr) (ca cb:Nat) (ll:List (List UInt8)) (hl:ll.length≤281474976710656) (w:World) (h1:zez w.heap.size w a ll) (h2:zez w.heap.size w b ll) :
 Calls Tryz.prog 63 #[.slice a ll.length ca,.slice b ll.length cb] w fun e w'=>e=.returned (.bool true)∧∃ q,w'=w.drewN q:=by
 have H1:=zaa h1;have H2:=zaa h2
 clear h1 h2
 go_enter Tryz.func63,Tryz.ntmps63
 go_wp2
 go_loopw [5] (fun x wr=>∃ k:Nat,x=.int .i64 k∧k≤ll.length∧∃ q,wr=w.drewN q) (fun x _=>ll.length - (intOf x).toNat)
 case atStart=>exact⟨0,rfl,Nat.zero_le _,0,rfl⟩
 case round =>
  obtain⟨k,rfl,hk,q,rfl⟩:=hrel
  by_cases hlt:k<ll.length
  ·have hlt':(k:Int)<ll.length:=by omega
   obtain⟨b1,o1,rfl,hb1,c1⟩:=zcb (uh H1) hlt
   obtain⟨b2,o2,rfl,hb2,c2⟩:=zcb (uh H2) hlt
   have d1:(w.drewN q).cell? ⟨b1,o1+k,none⟩=some (.string (bs (ll.getD k []))):=c1
   have d2:(w.drewN q).cell? ⟨b2,o2+k,none⟩=some (.string (bs (ll.getD k []))):=c2
   clear c1 c2
   generalize bs (ll.getD k [])=s at *
   generalize hW:w.drewN q=W at *
   go_wp2
   go_quiet (fail)
   go_wp2
   go_roundw
   case rel=>exact⟨k+1,by go_num,by omega,q+nq,by rw[← hW,World.drewN_drewN]⟩
   case measure=>simp[intOf];omega
  ·obtain rfl:k=ll.length:=by omega
   go_wp2
   go_ret
   exact⟨rfl,q,rfl⟩
theorem zhv (a b:Option Addr) (ca cb:Nat) (ll:List (List UInt8)) (hl:ll.length≤281474976710656) (w:World) (h1:zez w.heap.size w a ll) (h2:zez w.heap.size w b ll) :
 Calls Tryz.prog 23 #[.slice a ll.length ca,.slice b ll.length cb] w fun e w'=>e=.returned (.bool true)∧∃ q,w'=w.drewN q:=by
 have HS:=zaa (zdl a b ca cb ll hl w h1 h2)
 clear h1 h2
 go_enter Tryz.func23,Tryz.ntmps23
 go_wp2_with fail
 refine(uh HS).mono ?_
 rintro e w2 ⟨rfl,q,rfl⟩
 go_wp2
 go_ret
 exact⟨rfl,q,rfl⟩
end Go.Proofs.YtagohbpbgjelaaaGreatDoor

namespace Go.Proofs.YtagohbpbgjelaaaGreatDoor
open Go.RowKit

theorem zo4 {w:World} {a:Option Addr} {ll:List (List Int)} (h:zlO w a ll) {k:Nat} (hk:k<ll.length):∃ b off,a=some ⟨b,off,none⟩∧b<w.heap.size∧∃ ra rc,w.cell? ⟨b,off+k,none⟩=some (.slice ra (ll.getD k []).length rc)∧NRow w.heap.size w ra (ll.getD k []):=by
 rcases h with rfl | ⟨b,off,h1,h2,h3⟩
 ·simp at hk
 ·exact⟨b,off,h1,h2,h3 k hk⟩

end Go.Proofs.YtagohbpbgjelaaaGreatDoor

/- The document's names, levels. -/
import Derived.Test.YtagohbpbgjelaaaGreatDoorP0
namespace Go.Proofs.YtagohbpbgjelaaaGreatDoor
open Go.RowKit

def zdu (ns:List (List UInt8)) (k:Nat):Prop:=∀ j,j<k→1≤(ns.getD j []).length∧(ns.getD j []).length≤4096
instance (ns:List (List UInt8)) (k:Nat):Decidable (zdu ns k):=by unfold zdu;infer_instance
def zbW (ns:List (List UInt8)):Bool:=decide (1≤ns.length∧ns.length≤2048∧zdu ns ns.length∧ns.Nodup)
theorem zhM {ns:List (List UInt8)} (h:¬ (1≤ns.length∧ns.length≤2048∧zdu ns ns.length∧ns.Nodup)):zbW ns=false:=decide_eq_false h

set_option maxHeartbeats 4000000 in
set_option maxRecDepth 100000 in
theorem zld (a:Option Addr) (cap:Nat) (ns:List (List UInt8)) (B:Nat) (w:World) (hB:B≤w.heap.size) (hrow:zez B w a ns) :
 Calls Tryz.prog 53 #[.slice a ns.length cap] w fun e w'=>e=.returned (.bool (zbW ns))∧Below w.heap.size w w':=by
 by_cases h0:ns.length<1
 ·rw[show zbW ns=false from zhM (by omega)]
  have h0':(ns.length:Int)<1:=by omega
  go_enter Tryz.func53,Tryz.ntmps53
  go_wp2
  go_ret
  exact⟨rfl,Below.refl _ _⟩
 have h0':¬ (ns.length:Int)<1:=by omega
 by_cases h1:2048<ns.length
 ·rw[show zbW ns=false from zhM (by omega)]
  have h1':(2048:Int)<ns.length:=by omega
  go_enter Tryz.func53,Tryz.ntmps53
  go_wp2
  go_ret
  exact⟨rfl,Below.refl _ _⟩
 have h1':¬ (2048:Int)<ns.length:=by omega
 obtain⟨b,off,rfl,hb,hc⟩:=zj4 hrow hB (k:=0) (by omega)
 have Hyes:Hid (zdu ns ns.length∧zem ns ns.length→zbW ns=true):=zaa fun h=>decide_eq_true ⟨by omega,by omega,h.1,zhc h.2⟩
 have Hno:Hid (¬ (zdu ns ns.length∧zem ns ns.length)→zbW ns=false):=zaa fun h=>zhM (fun k=>h ⟨k.2.2.1,zg1 k.2.2.2⟩)
 have Hc:=zaa hc
 generalize zbW ns=R at *
 clear hrow hc
 go_enter Tryz.func53,Tryz.ntmps53
 go_wp2
 go_loopw [3] (fun x wr=>∃ k:Nat,x=.int .i64 k∧k≤ns.length∧zdu ns k∧zem ns k∧Below w.heap.size w wr) (fun x _=>ns.length - (intOf x).toNat)
 case atStart=>exact⟨0,rfl,Nat.zero_le _,(fun i hi=>absurd hi (Nat.not_lt_zero _)),(fun i hi=>absurd hi (Nat.not_lt_zero _)),Below.refl _ _⟩
 case round =>
  obtain⟨k,rfl,hk,hgood,hdist,hbel⟩:=hrel
  have Hg:=zaa hgood;have Hd:=zaa hdist;have Hbel:=zaa hbel
  clear hgood hdist hbel
  by_cases hlt:k<ns.length
  ·have hlt':(k:Int)<ns.length:=by omega
   have ck:=((uh Hbel).cell (p:=⟨b,off+k,none⟩) hb).trans (uh Hc k hlt)
   have hsz:((bs (ns.getD k [])).size:Int)=((ns.getD k []).length:Int):=rfl
   by_cases hn:1≤(ns.getD k []).length∧(ns.getD k []).length≤4096
   ·have Hg':Hid (zdu ns (k+1)):=zaa (by
     intro i hi
     by_cases e:i=k
     ·subst e;exact hn
     ·exact uh Hg i (by omega))
    have hs1:¬ ((bs (ns.getD k [])).size:Int)<1:=by rw[hsz];omega
    have hs2:¬ (4096:Int)<(bs (ns.getD k [])).size:=by rw[hsz];omega
    clear hn hsz
    generalize bs (ns.getD k [])=s at *
    go_wp2
    go_loopw [4] (fun y W=>∃ i:Nat,y=.int .i64 i∧i≤k∧zgA ns k i∧Below w.heap.size w W) (fun y _=>k - (intOf y).toNat)
    case atStart=>exact⟨0,rfl,Nat.zero_le _,(fun i hi=>absurd hi (Nat.not_lt_zero _)),uh Hbel⟩
    case round =>
     obtain⟨i,rfl,hi,hap,hbel2⟩:=hrel
     have Hap:=zaa hap;have Hb2:=zaa hbel2
     clear hap hbel2 ck
     by_cases hil:i<k
     ·have hil':(i:Int)<k:=by omega
      have hin:(i:Int)<ns.length:=by omega
      have ck:=((uh Hb2).cell (p:=⟨b,off+k,none⟩) hb).trans (uh Hc k hlt)
      have ci:=((uh Hb2).cell (p:=⟨b,off+i,none⟩) hb).trans (uh Hc i (by omega))
      by_cases he:ns.getD i []=ns.getD k []
      ·have Hr:Hid (R=false):=zaa (uh Hno (fun h=>h.2 k hlt i hil he))
       rw[he] at ci
       clear he
       generalize bs (ns.getD k [])=s2 at *
       go_wp2
       go_quiet (fail)
       go_wp2
       go_ret
       rw[uh Hr]
       exact⟨rfl,zaq (uh Hb2) _⟩
      ·have Ha':Hid (zgA ns k (i+1)):=zaa (by
        intro j hj
        by_cases e:j=i
        ·subst e;exact he
        ·exact uh Hap j (by omega))
       have hne:=bs_ne he
       clear he
       generalize bs (ns.getD k [])=s2 at *
       generalize bs (ns.getD i [])=s3 at *
       go_wp2
       go_quiet (fail)
       go_wp2
       go_roundw
       case rel=>exact⟨i+1,by go_num,by omega,uh Ha',zaq (uh Hb2) _⟩
       case measure=>simp[intOf];omega
     ·obtain rfl:i=k:=by omega
      have Hd':Hid (zem ns (i+1)):=zaa (by
       intro j hj
       by_cases e:j=i
       ·subst e;exact uh Hap
       ·exact uh Hd j (by omega))
      go_wp2
      go_roundw
      case rel=>exact⟨i+1,by go_num,by omega,uh Hg',uh Hd',uh Hb2⟩
      case measure=>simp[intOf];omega
   ·have Hr:Hid (R=false):=zaa (uh Hno (fun h=>hn (h.1 k hlt)))
    by_cases hn1:(ns.getD k []).length<1
    ·have hs1:((bs (ns.getD k [])).size:Int)<1:=by rw[hsz];omega
     clear hn hsz hn1
     generalize bs (ns.getD k [])=s at *
     go_wp2
     go_ret
     rw[uh Hr]
     exact⟨rfl,uh Hbel⟩
    ·have hs1:¬ ((bs (ns.getD k [])).size:Int)<1:=by rw[hsz];omega
     have hs2:(4096:Int)<(bs (ns.getD k [])).size:=by rw[hsz];omega
     clear hn hsz hn1
     generalize bs (ns.getD k [])=s at *
     go_wp2
     go_ret
     rw[uh Hr]
     exact⟨rfl,uh Hbel⟩
  ·obtain rfl:k=ns.length:=by omega
   have Hr:Hid (R=true):=zaa (uh Hyes ⟨uh Hg,uh Hd⟩)
   go_wp2
   go_ret
   rw[uh Hr]
   exact⟨rfl,uh Hbel⟩

def lvlB (i:Nat) (p:Int × Int):Bool:=decide ((p.1=0∧p.2=0)∨(1≤p.1∧1≤p.2∧p.2≤3∧2≤i))
def zge (l:List (Int × Int)) (k:Nat):Prop:=∀ i,i<k→lvlB i (l.getD i (0,0))=true
instance (l:List (Int × Int)) (k:Nat):Decidable (zge l k):=by unfold zge;infer_instance
def zbs (l:List (Int × Int)):Bool:=decide (zge l l.length)

set_option maxHeartbeats 4000000 in
set_option maxRecDepth 100000 in
theorem zjs (a:Option Addr) (cap:Nat) (l:List (Int × Int)) (hl:l.length≤281474976710656) (B:Nat) (w:World) (hB:B≤w.heap.size) (hrow:zpY B w a l) :
 Calls Tryz.prog 52 #[.slice a l.length cap] w fun e w'=>e=.returned (.bool (zbs l))∧Below w.heap.size w w':=by
 have Hyes:Hid (zge l l.length→zbs l=true):=zaa fun h=>decide_eq_true h
 have Hno:Hid (¬ zge l l.length→zbs l=false):=zaa fun h=>decide_eq_false h
 generalize zbs l=R at *
 have Hrow:=zaa hrow
 clear hrow
 have hnot:=zaG
 go_enter Tryz.func52,Tryz.ntmps52
 go_wp2
 go_loopw [3] (fun x wr=>∃ k:Nat,x=.int .i64 k∧k≤l.length∧zge l k∧Below w.heap.size w wr) (fun x _=>l.length - (intOf x).toNat)
 case atStart=>exact⟨0,rfl,Nat.zero_le _,(fun i hi=>absurd hi (Nat.not_lt_zero _)),Below.refl _ _⟩
 case round =>
  obtain⟨k,rfl,hk,hgood,hbel⟩:=hrel
  have Hg:=zaa hgood;have Hbel:=zaa hbel
  clear hgood hbel
  by_cases hlt:k<l.length
  ·have hlt':(k:Int)<l.length:=by omega
   obtain⟨b,off,rfl,hb,c0,c1⟩:=zfe (zeN (zab (uh Hbel) hB) (uh Hrow)) hlt
   have Hs:=zaa (fun(h:lvlB k (l.getD k (0,0))=true)=>show zge l (k+1) from fun i hi=>by
    by_cases e:i=k
    ·subst e;exact h
    ·exact uh Hg i (by omega))
   have Hn:=zaa (fun(h:lvlB k (l.getD k (0,0))=false)=>uh Hno (fun hd=>by rw[hd k hlt] at h;cases h))
   generalize l.getD k (0,0)=p at *
   obtain⟨x,y⟩:=p
   simp only at c0 c1
   have Hs2:=zaa (fun(h:(x=0∧y=0)∨(1≤x∧1≤y∧y≤3∧2≤k))=>uh Hs (decide_eq_true h))
   have Hn2:=zaa (fun(h:¬ ((x=0∧y=0)∨(1≤x∧1≤y∧y≤3∧2≤k)))=>uh Hn (decide_eq_false h))
   clear Hs Hn
   go_wp2
   all_goals first
    | (go_ret;rw[uh Hn2 (by first | omega | (simp at *;omega))];exact⟨rfl,uh Hbel⟩)
    | (go_roundw
       case rel=>exact⟨k+1,by go_num,by omega,uh Hs2 (by first | omega | (simp at *;omega)),uh Hbel⟩
       case measure=>simp[intOf];omega)
  ·obtain rfl:k=l.length:=by omega
   have Hr:Hid (R=true):=zaa (uh Hyes (uh Hg))
   go_wp2
   go_ret
   rw[uh Hr]
   exact⟨rfl,uh Hbel⟩
end Go.Proofs.YtagohbpbgjelaaaGreatDoor

namespace Go.Proofs.YtagohbpbgjelaaaGreatDoor
open Go.RowKit

def okA (k p:Int) (n:List UInt8) (m:Nat) (sy:Int):Prop:=(k=0∧p=0∧n=[]∧m=0)∨(k=1∧0≤p∧p<sy∧n=[]∧m=0)∨(k=3∧n.length≤4096∧p=0∧m=0)∨(k=2∧1≤n.length∧n.length≤32∧p=0)
instance (k p:Int) (n:List UInt8) (m:Nat) (sy:Int):Decidable (okA k p n m sy):=by unfold okA;infer_instance
mutual
def zaU:Ac→Int→Int→Int
 | .mk k p n ks,sy,left=>if left - 1<0 then -1 else if okA k p n ks.length sy then zbh ks sy (left - 1) else -1
def zbh:List Ac→Int→Int→Int
 | [],_,l=>l
 | t::ts,sy,l=>if l<0 then l else zbh ts sy (zaU t sy l)
end
mutual
theorem zd7:∀ (t:Ac) (sy l:Int),0≤l → -1≤zaU t sy l∧zaU t sy l≤l - 1
 | .mk k p n ks,sy,l,h=>by
   unfold zaU
   split
   ·omega
   ·split
    ·exact zis ks sy (l - 1) (by omega)
    ·omega
theorem zis:∀ (ts:List Ac) (sy l:Int),-1≤l → -1≤zbh ts sy l∧zbh ts sy l≤l
 | [],sy,l,h=>by unfold zbh;omega
 | t::ts,sy,l,h=>by
   unfold zbh
   split
   ·omega
   ·have h1:=zd7 t sy l (by omega)
    have h2:=zis ts sy (zaU t sy l) h1.1
    omega
end
theorem zgY (ts:List Ac) (sy l:Int) (h:l<0):zbh ts sy l=l:=by
 cases ts with
 | nil=>rfl
 | cons t ts=>unfold zbh;rw[if_pos h]
theorem dropA {ks:List Ac} {i:Nat} (hi:i<ks.length):ks.drop i=ks.getD i ac0::ks.drop (i+1):=by
 rw[List.drop_eq_getElem_cons hi,List.getD_eq_getElem?_getD,List.getElem?_eq_getElem hi]
 rfl
theorem zei {B:Nat} {w:World}:∀ (ts:List Ac) (vs:List Value),zgI B w ts vs→∀ i,i<ts.length→∃ u0 u1 u2 u3,vs[i * 4]? = some u0∧vs[i * 4+1]? = some u1∧vs[i * 4+2]? = some u2∧vs[i * 4+3]? = some u3∧zdh B w (ts.getD i ac0) u0 u1 u2 u3
 | [],_,_,i,hi=>by simp at hi
 | t::ts,vs,h,i,hi=>by
   unfold zgI at h
   obtain⟨u0,u1,u2,u3,rest,rfl,h1,h2⟩:=h
   cases i with
   | zero=>exact⟨u0,u1,u2,u3,rfl,rfl,rfl,rfl,h1⟩
   | succ i =>
     obtain⟨x0,x1,x2,x3,e0,e1,e2,e3,hx⟩:=zei ts rest h2 i (by simpa using hi)
     exact⟨x0,x1,x2,x3,by rw[show (i+1) * 4=i * 4+1+1+1+1 by omega];exact e0,by rw[show (i+1) * 4+1=i * 4+1+1+1+1+1 by omega];exact e1,by rw[show (i+1) * 4+2=i * 4+2+1+1+1+1 by omega];exact e2,by rw[show (i+1) * 4+3=i * 4+3+1+1+1+1 by omega];exact e3,hx⟩
theorem boxA (w:World) (v0 v1 v2 v3:Value) (t:TypeId):(w.alloc (.cells #[v0,v1,v2,v3] t)).cell? ⟨w.heap.size,3,none⟩=some v3∧(w.alloc (.cells #[v0,v1,v2,v3] t)).heap.size=w.heap.size+1∧Below w.heap.size w (w.alloc (.cells #[v0,v1,v2,v3] t)):=by
 refine⟨?_,by simp,(Below.refl _ _).alloc (Nat.le_refl _) _⟩
 unfold World.cell?;rw[Go.Deep.blk_alloc_new];rfl
theorem zn1:((bs []).toList == [])=true:=by rw[zbG];rfl
theorem zn2 {n:List UInt8} (h:n≠[]):((bs n).toList == [])=false:=by rw[zbG,beq_eq_false_iff_ne];exact h

set_option maxHeartbeats 4000000 in
set_option maxRecDepth 100000 in
theorem zlc (B:Nat) (sy:Int) (N:Nat):N≤256→∀ (t:Ac) (left:Int) (w:World) (v0 v1 v2 v3:Value),B≤w.heap.size→zdh B w t v0 v1 v2 v3→0≤left→left≤N →
 Calls Tryz.prog 97 #[.agg #[v0,v1,v2,v3],.int .i64 sy,.int .i64 left] w fun e w'=>e=.returned (.int .i64 (zaU t sy left))∧Below w.heap.size w w':=by
 induction N with
 | zero =>
   rintro - ⟨k,p,n,ks⟩ left w v0 v1 v2 v3 hB hA h0 h1
   unfold zdh at hA
   obtain⟨rfl,rfl,rfl,ka,kc,vs,rfl,-,-⟩:=hA
   obtain rfl:left=0:=by omega
   have HX:Hid (zaU (.mk k p n ks) sy 0 = -1):=zaa (by unfold zaU;rfl)
   go_enter Tryz.func97,Tryz.ntmps97
   go_wp2
   go_ret
   rw[uh HX]
   exact⟨rfl,(Below.refl _ _).alloc (Nat.le_refl _) _⟩
 | succ N ih =>
   rintro hN ⟨k,p,n,ks⟩ left w v0 v1 v2 v3 hB hA h0 h1
   have ih:=ih (by omega)
   unfold zdh at hA
   obtain⟨rfl,rfl,rfl,ka,kc,vs,rfl,hts,hkc⟩:=hA
   by_cases hl:left - 1<0
   ·obtain rfl:left=0:=by omega
    have HX:Hid (zaU (.mk k p n ks) sy 0 = -1):=zaa (by unfold zaU;rfl)
    go_enter Tryz.func97,Tryz.ntmps97
    go_wp2
    go_ret
    rw[uh HX]
    exact⟨rfl,(Below.refl _ _).alloc (Nat.le_refl _) _⟩
   obtain⟨l1,hl1⟩:∃ l1:Int,left - 1=l1:=⟨_,rfl⟩
   have hw1:IntKind.i64.wrap l1=l1:=by rw[IntKind.wrap_i64];omega
   have hl1n:¬ l1<0:=by omega
   have hl1N:l1≤N:=by omega
   have hnot:=zaG
   obtain⟨z3,hw3,hb1⟩:=boxA w (.int .i64 k) (.int .i64 p) (.string (bs n)) (.slice ka ks.length kc) 87
   have Hz3:=zaa z3;have Hb1:=zaa hb1
   have Hih:=zaa ih;have Hts:=zaa hts;have Hkc:=zaa hkc
   have hszn:((bs n).size:Int)=(n.length:Int):=rfl
   clear ih hts hkc z3 hb1
   by_cases hok:okA k p n ks.length sy
   ·have HX:Hid (zbh ks sy l1=zaU (.mk k p n ks) sy left):=zaa (by unfold zaU;rw[if_neg (by omega),if_pos hok,hl1])
    rcases hok with ⟨rfl,rfl,rfl,hm⟩ | ⟨rfl,hp0,hp1,rfl,hm⟩ | ⟨rfl,hn,rfl,hm⟩ | ⟨rfl,hn1,hn2,rfl⟩
    ·obtain rfl:ks=[]:=List.eq_nil_of_length_eq_zero hm
     simp only[List.length_nil] at Hz3 Hb1 hw3
     clear hm
     have hs:=zn1
     generalize bs []=s at *
     clear hszn
     go_enter Tryz.func97,Tryz.ntmps97
     go_wp2
     go_loopw [2,8] (fun lv x W=>lv=.int .i64 l1∧x=.int .i64 0∧Below w.heap.size w W∧W.cell? ⟨w.heap.size,3,none⟩=some (.slice ka 0 kc)) (fun _ _ _=>0)
     case atStart=>exact⟨rfl,rfl,uh Hb1,uh Hz3⟩
     case round =>
      obtain⟨rfl,rfl,hb,z3⟩:=hrel
      go_wp2
      go_ret
      rw[← uh HX]
      exact⟨rfl,hb⟩
    ·obtain rfl:ks=[]:=List.eq_nil_of_length_eq_zero hm
     simp only[List.length_nil] at Hz3 Hb1 hw3
     clear hm
     have hs:=zn1
     generalize bs []=s at *
     clear hszn
     have hp0':¬ p<0:=by omega
     have hp1':¬ sy≤p:=by omega
     cases hpz:(p == 0)
     ·go_enter Tryz.func97,Tryz.ntmps97
      go_wp2
      go_loopw [2,8] (fun lv x W=>lv=.int .i64 l1∧x=.int .i64 0∧Below w.heap.size w W∧W.cell? ⟨w.heap.size,3,none⟩=some (.slice ka 0 kc)) (fun _ _ _=>0)
      case atStart=>exact⟨rfl,rfl,uh Hb1,uh Hz3⟩
      case round =>
       obtain⟨rfl,rfl,hb,z3⟩:=hrel
       go_wp2
       go_ret
       rw[← uh HX]
       exact⟨rfl,hb⟩
     ·obtain rfl:p=0:=by simpa using hpz
      go_enter Tryz.func97,Tryz.ntmps97
      go_wp2
      go_loopw [2,8] (fun lv x W=>lv=.int .i64 l1∧x=.int .i64 0∧Below w.heap.size w W∧W.cell? ⟨w.heap.size,3,none⟩=some (.slice ka 0 kc)) (fun _ _ _=>0)
      case atStart=>exact⟨rfl,rfl,uh Hb1,uh Hz3⟩
      case round =>
       obtain⟨rfl,rfl,hb,z3⟩:=hrel
       go_wp2
       go_ret
       rw[← uh HX]
       exact⟨rfl,hb⟩
    ·obtain rfl:ks=[]:=List.eq_nil_of_length_eq_zero hm
     simp only[List.length_nil] at Hz3 Hb1 hw3
     clear hm
     have hn':¬ (4096:Int)<(bs n).size:=by rw[hszn];omega
     by_cases hne:n=[]
     ·subst hne
      have hs:=zn1
      generalize bs []=s at *
      clear hszn hn
      go_enter Tryz.func97,Tryz.ntmps97
      go_wp2
      go_loopw [2,8] (fun lv x W=>lv=.int .i64 l1∧x=.int .i64 0∧Below w.heap.size w W∧W.cell? ⟨w.heap.size,3,none⟩=some (.slice ka 0 kc)) (fun _ _ _=>0)
      case atStart=>exact⟨rfl,rfl,uh Hb1,uh Hz3⟩
      case round =>
       obtain⟨rfl,rfl,hb,z3⟩:=hrel
       go_wp2
       go_ret
       rw[← uh HX]
       exact⟨rfl,hb⟩
     ·have hs:=zn2 hne
      clear hne
      generalize bs n=s at *
      clear hszn hn
      go_enter Tryz.func97,Tryz.ntmps97
      go_wp2
      go_loopw [2,8] (fun lv x W=>lv=.int .i64 l1∧x=.int .i64 0∧Below w.heap.size w W∧W.cell? ⟨w.heap.size,3,none⟩=some (.slice ka 0 kc)) (fun _ _ _=>0)
      case atStart=>exact⟨rfl,rfl,uh Hb1,uh Hz3⟩
      case round =>
       obtain⟨rfl,rfl,hb,z3⟩:=hrel
       go_wp2
       go_ret
       rw[← uh HX]
       exact⟨rfl,hb⟩
    ·have hn1':¬ ((bs n).size:Int)<1:=by rw[hszn];omega
     have hn2':¬ (32:Int)<(bs n).size:=by rw[hszn];omega
     have hs:=zn2 (n:=n) (fun h=>by rw[h] at hn1;simp at hn1)
     generalize bs n=s at *
     clear hszn
     go_enter Tryz.func97,Tryz.ntmps97
     go_wp2
     generalize w.alloc (.cells #[.int .i64 2,.int .i64 0,.string s,.slice ka ks.length kc] 87)=w1 at *
     go_loopw [2,8] (fun lv x W=>∃ (i:Nat) (q:Int),lv=.int .i64 q∧x=.int .i64 i∧i≤ks.length ∧ -1≤q∧q≤l1∧(i:Int)+q≤l1∧zbh (ks.drop i) sy q=zbh ks sy l1∧Below w1.heap.size w1 W) (fun _ x _=>ks.length - (intOf x).toNat)
     case atStart=>exact⟨0,l1,rfl,rfl,Nat.zero_le _,by omega,Int.le_refl _,by omega,rfl,Below.refl _ _⟩
     case round =>
      obtain⟨i,q,rfl,rfl,hi,hq0,hq1,hq2,hrl,hb⟩:=hrel
      have z3:=(hb.cell (p:=⟨w.heap.size,3,none⟩) (by show w.heap.size<w1.heap.size;omega)).trans (uh Hz3)
      have hb2:=(uh Hb1).trans (zab hb (by omega))
      have Hb:=zaa hb;have Hb2:=zaa hb2;have Hrl:=zaa hrl
      clear hb hb2 hrl
      by_cases hlt:i<ks.length
      ·have hlt':(i:Int)<ks.length:=by omega
       by_cases hneg:q<0
       ·have hnd:decide (0≤q)=false:=by rw[decide_eq_false_iff_not];omega
        have Hr:Hid (q=zbh ks sy l1):=zaa (by rw[← uh Hrl];exact(zgY _ _ _ hneg).symm)
        go_wp2
        go_ret
        rw[← uh HX,← uh Hr]
        exact⟨rfl,uh Hb2⟩
       ·have hnd:decide (0≤q)=true:=by rw[decide_eq_true_eq];omega
        obtain⟨u0,u1,u2,u3,e0,e1,e2,e3,hu⟩:=zei ks vs (uh Hts) i hlt
        rcases uh Hkc with h | ⟨b,off,rfl,hbB,hcs⟩
        ·rw[h] at hlt;simp at hlt
        have hbW:=(uh Hb2)
        have c0:=(hbW.cell (p:=⟨b,off+i * 4,none⟩) (by show b<w.heap.size;omega)).trans (hcs _ _ e0)
        have c1:=(hbW.cell (p:=⟨b,off+i * 4+1,none⟩) (by show b<w.heap.size;omega)).trans (hcs _ _ e1)
        have c2:=(hbW.cell (p:=⟨b,off+i * 4+2,none⟩) (by show b<w.heap.size;omega)).trans (hcs _ _ e2)
        have c3:=(hbW.cell (p:=⟨b,off+i * 4+3,none⟩) (by show b<w.heap.size;omega)).trans (hcs _ _ e3)
        have hu2:=zbd (zab hbW hB) _ _ _ _ _ hu
        obtain⟨y0,y1,y2,y3,m3,d3,rfl,rfl,rfl,rfl⟩:=zdg hu2
        have hszW:=(uh Hb2).size
        have HC:=zaa (uh Hih (ks.getD i ac0) q wr _ _ _ _ (by omega) hu2 (by omega) (by omega))
        have hbd:=zd7 (ks.getD i ac0) sy q (by omega)
        rw[dropA hlt,zbh,if_neg hneg] at Hrl
        generalize zaU (ks.getD i ac0) sy q=q2 at *
        clear hu hu2 hbW e0 e1 e2 e3 hcs
        go_wp2_with fail
        refine(uh HC).mono ?_
        rintro e3 w3 ⟨rfl,hb3⟩
        have Hb3:=zaa ((uh Hb).trans (zab hb3 (uh Hb).size))
        clear hb3
        go_wp2
        go_roundw
        case rel=>exact⟨i+1,q2,rfl,by go_num,by omega,hbd.1,by omega,by omega,uh Hrl,uh Hb3⟩
        case measure=>simp[intOf];omega
      ·obtain rfl:i=ks.length:=by omega
       have Hr:Hid (q=zbh ks sy l1):=zaa (by rw[← uh Hrl,List.drop_length];rfl)
       go_wp2
       go_ret
       rw[← uh HX,← uh Hr]
       exact⟨rfl,uh Hb2⟩
   ·have HX:Hid (zaU (.mk k p n ks) sy left = -1):=zaa (by unfold zaU;rw[if_neg (by omega),if_neg hok])
    generalize zaU (.mk k p n ks) sy left=R at *
    have hsz:=hszn
    have Hok:Hid (∀ m:Nat,(bs n).size=m→¬ okA k p n ks.length sy):=zaa (fun _ _=>hok)
    have Hb2:=zaa ((Below.refl w.heap.size w).alloc (Nat.le_refl _) (.cells #[.int .i64 k,.int .i64 p,.string (bs n),.slice ka ks.length kc] 87))
    have Hne:Hid (((bs n).toList == [])=true↔n=[]):=zaa (by rw[zbG];simp)
    have hex:(k=0∧¬ (p=0∧n=[]∧ks.length=0))∨(k=1∧¬ (0≤p∧p<sy∧n=[]∧ks.length=0))∨(k=3∧¬ (n.length≤4096∧p=0∧ks.length=0))∨(k=2∧¬ (1≤n.length∧n.length≤32∧p=0))∨(k≠0∧k≠1∧k≠2∧k≠3):=by
     unfold okA at hok
     by_cases h0:k=0
     ·subst h0;left;exact⟨rfl,fun h=>hok (.inl ⟨rfl,h⟩)⟩
     by_cases h1:k=1
     ·subst h1;right;left;exact⟨rfl,fun h=>hok (.inr (.inl ⟨rfl,h⟩))⟩
     by_cases h3:k=3
     ·subst h3;right;right;left;exact⟨rfl,fun h=>hok (.inr (.inr (.inl ⟨rfl,h⟩)))⟩
     by_cases h2:k=2
     ·subst h2;right;right;right;left;exact⟨rfl,fun h=>hok (.inr (.inr (.inr ⟨rfl,h⟩)))⟩
     exact .inr (.inr (.inr (.inr ⟨h0,h1,h2,h3⟩)))
    clear hok Hok Hz3 Hb1 hw3 hl1N Hih Hts Hkc
    have hln:(n.length=0)↔n=[]:=List.length_eq_zero_iff
    rcases hex with ⟨rfl,hx⟩ | ⟨rfl,hx⟩ | ⟨rfl,hx⟩ | ⟨rfl,hx⟩ | ⟨hk0,hk1,hk2,hk3⟩
    ·cases hs:((bs n).toList == [])
     ·have hne:¬ n=[]:=fun h=>by rw[(uh Hne).2 h] at hs;cases hs
      have Hx:Hid (True):=zaa (trivial)
      clear hx Hne hln hne hszn hsz
      generalize ks.length=m at *
      generalize bs n=s at *
      go_enter Tryz.func97,Tryz.ntmps97
      go_wp2
      all_goals first
       | (go_ret;rw[uh HX];exact⟨rfl,(Below.refl _ _).alloc (Nat.le_refl _) _⟩)
       | (exfalso;have h1:=uh Hx;first | omega | (simp at *;omega))
     ·have hne:n=[]:=(uh Hne).1 hs
      have Hx:Hid (¬ (p=0∧ks.length=0)):=zaa (fun h=>hx ⟨h.1,hne,h.2⟩)
      clear hx Hne hln hne hszn hsz
      generalize ks.length=m at *
      generalize bs n=s at *
      go_enter Tryz.func97,Tryz.ntmps97
      go_wp2
      all_goals first
       | (go_ret;rw[uh HX];exact⟨rfl,(Below.refl _ _).alloc (Nat.le_refl _) _⟩)
       | (exfalso;have h1:=uh Hx;first | omega | (simp at *;omega))
    ·cases hs:((bs n).toList == [])
     ·have hne:¬ n=[]:=fun h=>by rw[(uh Hne).2 h] at hs;cases hs
      have Hx:Hid (True):=zaa (trivial)
      clear hx Hne hln hne hszn hsz
      generalize ks.length=m at *
      generalize bs n=s at *
      go_enter Tryz.func97,Tryz.ntmps97
      go_wp2
      all_goals first
       | (go_ret;rw[uh HX];exact⟨rfl,(Below.refl _ _).alloc (Nat.le_refl _) _⟩)
       | (exfalso;have h1:=uh Hx;first | omega | (simp at *;omega))
     ·have hne:n=[]:=(uh Hne).1 hs
      have Hx:Hid (¬ (0≤p∧p<sy∧ks.length=0)):=zaa (fun h=>hx ⟨h.1,h.2.1,hne,h.2.2⟩)
      clear hx Hne hln hne hszn hsz
      generalize ks.length=m at *
      generalize bs n=s at *
      go_enter Tryz.func97,Tryz.ntmps97
      go_wp2
      all_goals first
       | (go_ret;rw[uh HX];exact⟨rfl,(Below.refl _ _).alloc (Nat.le_refl _) _⟩)
       | (exfalso;have h1:=uh Hx;first | omega | (simp at *;omega))
    ·cases hs:((bs n).toList == [])
     ·have hne:¬ n=[]:=fun h=>by rw[(uh Hne).2 h] at hs;cases hs
      have Hx:Hid (¬ ((bs n).size≤4096∧p=0∧ks.length=0)):=zaa (hx)
      clear hx Hne hln hne hszn hsz
      generalize ks.length=m at *
      generalize bs n=s at *
      go_enter Tryz.func97,Tryz.ntmps97
      go_wp2
      all_goals first
       | (go_ret;rw[uh HX];exact⟨rfl,(Below.refl _ _).alloc (Nat.le_refl _) _⟩)
       | (exfalso;have h1:=uh Hx;first | omega | (simp at *;omega))
     ·have hne:n=[]:=(uh Hne).1 hs
      have Hx:Hid (¬ ((bs n).size≤4096∧p=0∧ks.length=0)):=zaa (hx)
      clear hx Hne hln hne hszn hsz
      generalize ks.length=m at *
      generalize bs n=s at *
      go_enter Tryz.func97,Tryz.ntmps97
      go_wp2
      all_goals first
       | (go_ret;rw[uh HX];exact⟨rfl,(Below.refl _ _).alloc (Nat.le_refl _) _⟩)
       | (exfalso;have h1:=uh Hx;first | omega | (simp at *;omega))
    ·cases hs:((bs n).toList == [])
     ·have hne:¬ n=[]:=fun h=>by rw[(uh Hne).2 h] at hs;cases hs
      have Hx:Hid (¬ (1≤(bs n).size∧(bs n).size≤32∧p=0)):=zaa (hx)
      clear hx Hne hln hne hszn hsz
      generalize ks.length=m at *
      generalize bs n=s at *
      go_enter Tryz.func97,Tryz.ntmps97
      go_wp2
      all_goals first
       | (go_ret;rw[uh HX];exact⟨rfl,(Below.refl _ _).alloc (Nat.le_refl _) _⟩)
       | (exfalso;have h1:=uh Hx;first | omega | (simp at *;omega))
     ·have hne:n=[]:=(uh Hne).1 hs
      have Hx:Hid (¬ (1≤(bs n).size∧(bs n).size≤32∧p=0)):=zaa (hx)
      clear hx Hne hln hne hszn hsz
      generalize ks.length=m at *
      generalize bs n=s at *
      go_enter Tryz.func97,Tryz.ntmps97
      go_wp2
      all_goals first
       | (go_ret;rw[uh HX];exact⟨rfl,(Below.refl _ _).alloc (Nat.le_refl _) _⟩)
       | (exfalso;have h1:=uh Hx;first | omega | (simp at *;omega))
    ·have e0:(k == 0)=false:=by rw[beq_eq_false_iff_ne];exact hk0
     have e1:(k == 1)=false:=by rw[beq_eq_false_iff_ne];exact hk1
     have e2:(k == 2)=false:=by rw[beq_eq_false_iff_ne];exact hk2
     have e3:(k == 3)=false:=by rw[beq_eq_false_iff_ne];exact hk3
     clear hk0 hk1 hk2 hk3 Hne hszn hsz hln
     generalize bs n=s at *
     go_enter Tryz.func97,Tryz.ntmps97
     go_wp2
     all_goals (go_ret;rw[uh HX];exact⟨rfl,(Below.refl _ _).alloc (Nat.le_refl _) _⟩)
end Go.Proofs.YtagohbpbgjelaaaGreatDoor

namespace Go.Proofs.YtagohbpbgjelaaaGreatDoor
open Go.RowKit

def zbV (n:Nat) (row:List Int) (k:Nat):Prop:=∀ j,j<k→1≤row.getD j 0∧row.getD j 0<n
instance (n:Nat) (row:List Int) (k:Nat):Decidable (zbV n row k):=by unfold zbV;infer_instance
def zdC (nk nr:Nat) (p:Pd):Bool:=decide (0≤p.left∧p.left<nr∧p.right.length≤64∧0≤p.level∧zbV (nk+nr) p.right p.right.length∧0≤zaU p.act p.right.length 256)

set_option maxHeartbeats 4000000 in
set_option maxRecDepth 100000 in
theorem zmE (ka pa ra qa:Option Addr) (nk kc pn pc nr rc qn qc:Nat) (st:Int) (hnk:nk≤1024) (hnr:nr≤2048) (p:Pd) (B:Nat) (w:World) (hB:B≤w.heap.size) (rr:Option Addr) (rrc:Nat) (x3 x4:Int) (x5:ByteArray) (x6:Option Addr) (n6 c6:Nat) (hrr:NRow B w rr p.right) (hac:zdh B w p.act (.int .i64 x3) (.int .i64 x4) (.string x5) (.slice x6 n6 c6)) (hrl:p.right.length≤281474976710656) :
 Calls Tryz.prog 54 #[.agg #[.slice ka nk kc,.slice pa pn pc,.slice ra nr rc,.slice qa qn qc,.int .i64 st],.agg #[.int .i64 p.left,.slice rr p.right.length rrc,.int .i64 p.level,.int .i64 x3,.int .i64 x4,.string x5,.slice x6 n6 c6]] w fun e w'=>e=.returned (.bool (zdC nk nr p))∧Below w.heap.size w w':=by
 obtain⟨pl,prt,plv,pac⟩:=p
 simp only at hrr hac hrl ⊢
 have Hyes:=zaa (fun(h:(0≤pl∧pl<nr∧prt.length≤64∧0≤plv)∧zbV (nk+nr) prt prt.length∧0≤zaU pac prt.length 256)=>show zdC nk nr ⟨pl,prt,plv,pac⟩=true from decide_eq_true ⟨h.1.1,h.1.2.1,h.1.2.2.1,h.1.2.2.2,h.2⟩)
 have Hno:=zaa (fun(h:¬ ((0≤pl∧pl<nr∧prt.length≤64∧0≤plv)∧zbV (nk+nr) prt prt.length∧0≤zaU pac prt.length 256))=>show zdC nk nr ⟨pl,prt,plv,pac⟩=false from decide_eq_false (fun k=>h ⟨⟨k.1,k.2.1,k.2.2.1,k.2.2.2.1⟩,k.2.2.2.2⟩))
 generalize zdC nk nr ⟨pl,prt,plv,pac⟩=R at *
 obtain⟨g0,-,g2,-,-,hwg,hbg⟩:=zrE w (.slice ka nk kc) (.slice pa pn pc) (.slice ra nr rc) (.slice qa qn qc) (.int .i64 st) 26
 obtain⟨p0,p1,p2,p3,p4,p5,p6,hwp,hbp⟩:=zrD (w.alloc (.cells #[.slice ka nk kc,.slice pa pn pc,.slice ra nr rc,.slice qa qn qc,.int .i64 st] 26)) (.int .i64 pl) (.slice rr prt.length rrc) (.int .i64 plv) (.int .i64 x3) (.int .i64 x4) (.string x5) (.slice x6 n6 c6) 89
 rw[hwg] at p0 p1 p2 p3 p4 p5 p6 hwp hbp
 have Hb1:=zaa (hbg.trans (zab hbp (by omega)))
 have G0:=zaa ((hbp.cell (p:=⟨w.heap.size,0,none⟩) (Nat.lt_succ_self _)).trans g0)
 have G2:=zaa ((hbp.cell (p:=⟨w.heap.size,2,none⟩) (Nat.lt_succ_self _)).trans g2)
 have P0:=zaa p0;have P1:=zaa p1;have P2:=zaa p2;have P3:=zaa p3;have P4:=zaa p4;have P5:=zaa p5;have P6:=zaa p6
 have Hrr:=zaa hrr;have Hac:=zaa hac
 clear hrr hac g0 g2 hbg hbp p0 p1 p2 p3 p4 p5 p6
 by_cases hh:0≤pl∧pl<nr∧prt.length≤64∧0≤plv
 ·have Hh:=zaa hh
  have h1:¬ pl<0:=by omega
  have h2:¬ (nr:Int)≤pl:=by omega
  have h3:¬ (64:Int)<prt.length:=by omega
  have h4:¬ plv<0:=by omega
  clear hh
  go_enter Tryz.func54,Tryz.ntmps54
  go_wp2
  generalize (w.alloc (.cells #[.slice ka nk kc,.slice pa pn pc,.slice ra nr rc,.slice qa qn qc,.int .i64 st] 26)).alloc (.cells #[.int .i64 pl,.slice rr prt.length rrc,.int .i64 plv,.int .i64 x3,.int .i64 x4,.string x5,.slice x6 n6 c6] 89)=w2 at *
  go_loopw [5] (fun x W=>∃ i:Nat,x=.int .i64 i∧i≤prt.length∧zbV (nk+nr) prt i∧Below w2.heap.size w2 W) (fun x _=>prt.length - (intOf x).toNat)
  case atStart=>exact⟨0,rfl,Nat.zero_le _,fun j hj=>absurd hj (Nat.not_lt_zero _),Below.refl _ _⟩
  case round =>
   obtain⟨i,rfl,hi,hsy,hb⟩:=hrel
   have hk1:=fun(a:Nat) (j:Nat) (v:Value) (ha:a<w2.heap.size) (h:w2.cell? ⟨a,j,none⟩=some v)=>(hb.cell (p:=⟨a,j,none⟩) ha).trans h
   have g0:=hk1 _ _ _ (by omega) (uh G0)
   have g2:=hk1 _ _ _ (by omega) (uh G2)
   have p1:=hk1 _ _ _ (by omega) (uh P1)
   have hb2:=(uh Hb1).trans (zab hb (by omega))
   have Hb2:=zaa hb2;have Hsy:=zaa hsy;have Hb:=zaa hb
   clear hk1 hb2 hsy
   by_cases hlt:i<prt.length
   ·have hlt':(i:Int)<prt.length:=by omega
    clear hb
    obtain⟨xb,xo,rfl,hxb,cx⟩:=za3 (zau (zab (uh Hb2) hB) (uh Hrr)) hlt
    have Hs:=zaa (fun(h:1≤prt.getD i 0∧prt.getD i 0<(nk+nr:Nat))=>show zbV (nk+nr) prt (i+1) from fun j hj=>by
     by_cases e:j=i
     ·subst e;exact h
     ·exact uh Hsy j (by omega))
    have Hn:=zaa (fun(h:¬ (1≤prt.getD i 0∧prt.getD i 0<(nk+nr:Nat)))=>uh Hno (fun k=>h (k.2.1 i hlt)))
    generalize prt.getD i 0=x at *
    have hww:IntKind.i64.wrap ((nk:Int)+nr)=(nk:Int)+nr:=by rw[IntKind.wrap_i64];omega
    by_cases hx1:x<1
    ·have Hr:=zaa (uh Hn (by omega))
     go_wp2
     go_quiet (fail)
     go_wp2
     go_ret
     rw[uh Hr]
     exact⟨rfl,zaq (uh Hb2) _⟩
    ·by_cases hx2:(nk:Int)+nr≤x
     ·have Hr:=zaa (uh Hn (by omega))
      go_wp2
      go_quiet (fail)
      go_wp2
      go_ret
      rw[uh Hr]
      exact⟨rfl,zaq (uh Hb2) _⟩
     ·have Hs2:=zaa (uh Hs (by omega))
      have hx3:decide ((nk:Int)+nr≤x)=false:=by rw[decide_eq_false_iff_not];exact hx2
      go_wp2
      go_quiet (fail)
      go_wp2
      go_roundw
      case rel=>exact⟨i+1,by go_num,by omega,uh Hs2,zaq (uh Hb) _⟩
      case measure=>simp[intOf];omega
   ·obtain rfl:i=prt.length:=by omega
    have hk1:=fun(a:Nat) (j:Nat) (v:Value) (ha:a<w2.heap.size) (h:w2.cell? ⟨a,j,none⟩=some v)=>(hb.cell (p:=⟨a,j,none⟩) ha).trans h
    have p3:=hk1 _ _ _ (by omega) (uh P3)
    have p4:=hk1 _ _ _ (by omega) (uh P4)
    have p5:=hk1 _ _ _ (by omega) (uh P5)
    have p6:=hk1 _ _ _ (by omega) (uh P6)
    have hszW:=hb.size
    clear hk1 hb
    have HC:=zaa (zlc B prt.length 256 (Nat.le_refl _) pac 256 wr _ _ _ _ (by omega) (zbd (zab (uh Hb2) hB) _ _ _ _ _ (uh Hac)) (by omega) (by omega))
    have hbd:=zd7 pac prt.length 256 (by omega)
    have HR:Hid (R=decide (0≤zaU pac prt.length 256)):=zaa (by
     by_cases h:0≤zaU pac prt.length 256
     ·rw[decide_eq_true h];exact uh Hyes ⟨uh Hh,uh Hsy,h⟩
     ·rw[decide_eq_false h];exact uh Hno (fun k=>h k.2.2))
    generalize zaU pac prt.length 256=V at *
    go_wp2_with fail
    refine(uh HC).mono ?_
    rintro e w3 ⟨rfl,hb3⟩
    have Hb3:=zaa ((uh Hb2).trans (zab hb3 (uh Hb2).size))
    clear hb3
    go_wp2
    go_ret
    rw[uh HR]
    exact⟨rfl,uh Hb3⟩
 ·have Hr:=zaa (uh Hno (fun h=>hh h.1))
  clear Hno Hyes
  have Hx:=zaa hh
  clear hh
  go_enter Tryz.func54,Tryz.ntmps54
  go_wp2
  all_goals first
   | (go_ret;rw[uh Hr];exact⟨rfl,((Below.refl _ _).alloc (Nat.le_refl _) _).alloc (by simp) _⟩)
   | (exfalso;have h1:=uh Hx;first | omega | (simp at *;omega))
end Go.Proofs.YtagohbpbgjelaaaGreatDoor

namespace Go.Proofs.YtagohbpbgjelaaaGreatDoor
open Go.RowKit

def za9 (nk:Nat) (f:Nat→Bool) (row:List Int):Bool:=row.all fun x=>decide (x<(nk:Int)) || f (x - nk).toNat
theorem wholeB_iff {nk:Nat} {f:Nat→Bool} {row:List Int}:za9 nk f row=true↔∀ x,x ∈ row→(nk:Int)≤x→f (x - nk).toNat=true:=by
 unfold za9
 rw[List.all_eq_true]
 constructor
 ·intro h x hx hk
  have:=h x hx
  rw[Bool.or_eq_true,decide_eq_true_eq] at this
  rcases this with h | h
  ·omega
  ·exact h
 ·intro h x hx
  rw[Bool.or_eq_true,decide_eq_true_eq]
  by_cases e:x<nk
  ·exact .inl e
  ·exact .inr (h x hx (by omega))
theorem zjb {nk:Nat} {f:Nat→Bool} {row:List Int} {k:Nat} (h:k<row.length) (h1:za9 nk f (row.take k)=true) (h3:(nk:Int)≤row.getD k 0→f (row.getD k 0 - nk).toNat=true):za9 nk f (row.take (k+1))=true:=by
 rw[wholeB_iff] at *
 rw[zbf row k 0 h]
 intro x hx
 rcases List.mem_append.1 hx with h | h
 ·exact h1 x h
 ·rw[List.mem_singleton] at h
  subst h
  exact h3
theorem zlX {nk:Nat} {f:Nat→Bool} {row:List Int} {k:Nat} (h:k<row.length) (h1:(nk:Int)≤row.getD k 0) (h2:f (row.getD k 0 - nk).toNat=false):za9 nk f row=false:=by
 rw[Bool.eq_false_iff]
 intro h'
 rw[wholeB_iff] at h'
 rw[h' _ (za5 h) h1] at h2
 cases h2

set_option maxHeartbeats 1000000 in
set_option maxRecDepth 100000 in
theorem zfa (ka pa ra qa:Option Addr) (nk kc pn pc nr rc qn qc:Nat) (st:Int) (nb nc:Nat) (null:Nat→Bool) (ro:Option Addr) (rowc:Nat) (row:List Int) (B:Nat) (w:World)
 (hB:B≤w.heap.size) (hnr:nr≤2048) (hrl:row.length≤281474976710656) (hrow:NRow B w ro row) (hs:zii (nk+nr) row) (hn:w.rowIs nb 4 nr (fun r=>.bool (null r))) :
 Calls Tryz.prog 60 #[.agg #[.slice ka nk kc,.slice pa pn pc,.slice ra nr rc,.slice qa qn qc,.int .i64 st],.slice (some ⟨nb,0,none⟩) nr nc,.slice ro row.length rowc] w fun e w'=>e=.returned (.bool (za9 nk null row))∧Below w.heap.size w w':=by
 have Hrow:=zaa hrow;have Hs:=zaa hs;have Hn:=zaa hn
 clear hrow hs hn
 generalize hR:za9 nk null row=R
 have HR:=zaa hR
 clear hR
 obtain⟨g0,-,-,-,-,hw1,hb1⟩:=zrE w (.slice ka nk kc) (.slice pa pn pc) (.slice ra nr rc) (.slice qa qn qc) (.int .i64 st) 26
 have hnot:=zaG
 go_enter Tryz.func60,Tryz.ntmps60
 go_wp2
 generalize w.alloc (.cells #[.slice ka nk kc,.slice pa pn pc,.slice ra nr rc,.slice qa qn qc,.int .i64 st] 26)=w1 at *
 have Hg0:=zaa g0;have Hb1:=zaa hb1
 clear g0 hb1
 go_loopw [7] (fun x wr=>∃ k:Nat,x=.int .i64 k∧k≤row.length∧za9 nk null (row.take k)=true∧Below w1.heap.size w1 wr) (fun x _=>row.length - (intOf x).toNat)
 case atStart=>exact⟨0,rfl,Nat.zero_le _,rfl,Below.refl _ _⟩
 case round =>
  obtain⟨k,rfl,hk,hem,hb⟩:=hrel
  have hb2:=(uh Hb1).trans (zab hb (by omega))
  have Hem:=zaa hem;have Hb2:=zaa hb2
  have g0:=(hb.cell (p:=⟨w.heap.size,0,none⟩) (by show w.heap.size<w1.heap.size;omega)).trans (uh Hg0)
  have Hb:=zaa hb
  clear hem hb hb2
  by_cases hlt:k<row.length
  ·have hlt':(k:Int)<row.length:=by omega
   obtain⟨b,off,rfl,hbB,hc⟩:=za3 (zau (zab (uh Hb2) hB) (uh Hrow)) hlt
   have hr:=uh Hs _ (za5 hlt)
   have Hlow:=zaa (fun h1 h2=>(uh HR).symm.trans (zlX (f:=null) (nk:=nk) hlt h1 h2))
   have Hup:=zaa (fun h3=>zjb (f:=null) (nk:=nk) hlt (uh Hem) h3)
   generalize row.getD k 0=x at *
   by_cases hx:x<nk
   ·have Hup2:=zaa (uh Hup (fun h=>by omega))
    have hx2:decide ((nk:Int)≤x)=false:=by rw[decide_eq_false_iff_not];omega
    go_wp2
    go_quiet (fail)
    go_wp2
    go_roundw
    case rel=>exact⟨k+1,by go_num,by omega,uh Hup2,zaq (uh Hb) _⟩
    case measure=>simp[intOf];omega
   ·obtain⟨r,hxr⟩:∃ r:Nat,x - (nk:Int)=r:=⟨(x - nk).toNat,by omega⟩
    have hrr:r<nr:=by omega
    have hrr':(r:Int)<nr:=by omega
    have hwr:=wN r (by omega)
    rw[hxr,Int.toNat_natCast] at Hlow Hup
    have cn:wr.cell? ⟨nb,r,none⟩=some (.bool (null r)):=((uh Hb2).cell (p:=⟨nb,r,none⟩) (uh Hn).lt).trans ((uh Hn).cell hrr)
    cases hnr2:null r
    ·rw[hnr2] at cn
     have Hlow2:=zaa (uh Hlow (by omega) hnr2)
     clear hnr2
     go_wp2
     go_quiet (fail)
     go_wp2
     go_ret
     rw[uh Hlow2]
     exact⟨rfl,zaq (uh Hb2) _⟩
    ·rw[hnr2] at cn
     have Hup2:=zaa (uh Hup (fun _=>hnr2))
     clear hnr2
     go_wp2
     go_quiet (fail)
     go_wp2
     go_roundw
     case rel=>exact⟨k+1,by go_num,by omega,uh Hup2,zaq (uh Hb) _⟩
     case measure=>simp[intOf];omega
  ·obtain rfl:k=row.length:=by omega
   go_wp2
   go_ret
   rw[List.take_length] at Hem
   rw[← uh HR,uh Hem]
   exact⟨rfl,uh Hb2⟩
end Go.Proofs.YtagohbpbgjelaaaGreatDoor

namespace Go.Proofs.YtagohbpbgjelaaaGreatDoor
open Go.RowKit

def zji (ks rs:List (List UInt8)) (x:Int):List UInt8:=if x<ks.length then ks.getD x.toNat [] else rs.getD (x - ks.length).toNat []
set_option maxHeartbeats 1000000 in
set_option maxRecDepth 100000 in
theorem zjp (G:Gm) (ka pa ra qa:Option Addr) (kc pc rc qc:Nat) (hnr:G.rules.length≤2048) (x:Int) (hx:1≤x∧x<(G.kinds.length+G.rules.length:Nat)) (B:Nat) (w:World) (hB:B≤w.heap.size) (hin:GIn B w G ka pa ra qa) :
 Calls Tryz.prog 62 #[.agg #[.slice ka G.kinds.length kc,.slice pa G.precs.length pc,.slice ra G.rules.length rc,.slice qa G.prods.length qc,.int .i64 G.start],.int .i64 x] w fun e w'=>e=.returned (.string (bs (zji G.kinds G.rules x)))∧Below w.heap.size w w':=by
 have hst:=zbt (kc:=kc) (pc:=pc) (rc:=rc) (qc:=qc) hB hin 26
 have d0:=hst.c0;have d1:=hst.c1;have d2:=hst.c2;have d3:=hst.c3;have d4:=hst.c4
 have Hb1:=zaa ((Below.refl w.heap.size w).alloc (Nat.le_refl _) (.cells #[.slice ka G.kinds.length kc,.slice pa G.precs.length pc,.slice ra G.rules.length rc,.slice qa G.prods.length qc,.int .i64 G.start] 26))
 by_cases hxk:x<G.kinds.length
 ·obtain⟨n,rfl⟩:∃ n:Nat,x=(n:Int):=⟨x.toNat,by omega⟩
  obtain⟨b,off,rfl,hb,hc⟩:=zcb hst.gin.kinds (k:=n) (by omega)
  have Hs:Hid (zji G.kinds G.rules (n:Int)=G.kinds.getD n []):=zaa (by unfold zji;rw[if_pos hxk];rfl)
  clear hst hin hnr
  generalize G.kinds.getD n []=s at *
  go_enter Tryz.func62,Tryz.ntmps62
  go_wp2
  go_ret
  rw[uh Hs]
  exact⟨rfl,uh Hb1⟩
 ·obtain⟨r,hxr⟩:∃ r:Nat,x - (G.kinds.length:Int)=r:=⟨(x - G.kinds.length).toNat,by omega⟩
  have hwr:=wN r (by omega)
  have hr2:(r:Int)<G.rules.length:=by omega
  obtain⟨b,off,rfl,hb,hc⟩:=zcb hst.gin.rules (k:=r) (by omega)
  have Hs:Hid (zji G.kinds G.rules x=G.rules.getD r []):=zaa (by unfold zji;rw[if_neg hxk,hxr];rfl)
  clear hst hin hnr
  generalize G.rules.getD r []=s at *
  go_enter Tryz.func62,Tryz.ntmps62
  go_wp2
  go_ret
  rw[uh Hs]
  exact⟨rfl,uh Hb1⟩
end Go.Proofs.YtagohbpbgjelaaaGreatDoor

namespace Go.Proofs.YtagohbpbgjelaaaGreatDoor
open Go.RowKit

theorem zlx:(Tryz.prog.info? 4).map (fun i=>(i.zero,i.size,i.bytes))=some (some (.bool false),1,1):=by kernel_rfl

end Go.Proofs.YtagohbpbgjelaaaGreatDoor

namespace Go.Proofs.YtagohbpbgjelaaaGreatDoor
open Go.RowKit

inductive Prdv (G:Gm):Nat→Prop
 | mk (p:Pd) (hp:p ∈ G.prods) (h:∀ x,x ∈ p.right→(G.nk:Int)≤x→Prdv G (x - G.nk).toNat):Prdv G p.left.toNat
open Classical in
noncomputable def zcQ (G:Gm):Nat→Bool:=fun r=>decide (Prdv G r)
theorem zqG (G:Gm) (r:Nat):zcQ G r=true↔Prdv G r:=by unfold zcQ;simp
def zeY (G:Gm) (f:Nat→Bool):Prop:=∀ r,f r=true→Prdv G r
def zdm (G:Gm) (f:Nat→Bool) (p:Pd):Bool:=!f p.left.toNat && za9 G.nk f p.right
def zjW (G:Gm) (f:Nat→Bool):Prop:=∀ i,i<G.prods.length→zdm G f (G.prods.getD i pd0)=false
theorem zqF {G:Gm} {f:Nat→Bool} {i:Nat} (h:zeY G f) (hi:i<G.prods.length) (hs:zdm G f (G.prods.getD i pd0)=true):zeY G (upd f (G.prods.getD i pd0).left.toNat):=by
 intro r hr
 rcases zjc hr with rfl | h1
 ·unfold zdm at hs
  rw[Bool.and_eq_true] at hs
  have:=wholeB_iff.1 hs.2
  exact .mk _ (zag hi) (fun x hx hk=>h _ (this x hx hk))
 ·exact h r h1
theorem zkd {G:Gm} {f:Nat→Bool} (h:zeY G f) (hs:zjW G f):f=zcQ G:=by
 funext r
 rw[Bool.eq_iff_iff,zqG]
 refine⟨h r,fun hn=>?_⟩
 induction hn with
 | mk p hp h1 ih =>
   obtain⟨i,hi,rfl⟩:=zdN hp
   have:=hs i hi
   unfold zdm at this
   rw[Bool.and_eq_false_iff] at this
   rcases this with h | h
   ·simpa using h
   ·rw[wholeB_iff.2 (fun x hx hk=>ih x hx hk)] at h
    cases h

inductive Rchd (G:Gm) (ok:Pd→Bool):Nat→Prop
 | start:Rchd G ok G.start.toNat
 | step (p:Pd) (hp:p ∈ G.prods) (ho:ok p=true) (h:Rchd G ok p.left.toNat) (x:Int) (hx:x ∈ p.right) (hk:(G.nk:Int)≤x):Rchd G ok (x - G.nk).toNat
open Classical in
noncomputable def zp5 (G:Gm) (ok:Pd→Bool):Nat→Bool:=fun r=>decide (Rchd G ok r)
theorem zmC (G:Gm) (ok:Pd→Bool) (r:Nat):zp5 G ok r=true↔Rchd G ok r:=by unfold zp5;simp
def zdr (G:Gm) (ok:Pd→Bool) (f:Nat→Bool):Prop:=f G.start.toNat=true∧∀ r,f r=true→Rchd G ok r
def ze9 (G:Gm) (ok:Pd→Bool) (f:Nat→Bool) (p:Pd):Prop:=f p.left.toNat=true→ok p=true→∀ x,x ∈ p.right→(G.nk:Int)≤x→f (x - G.nk).toNat=true
def zjV (G:Gm) (ok:Pd→Bool) (f:Nat→Bool):Prop:=∀ i,i<G.prods.length→ze9 G ok f (G.prods.getD i pd0)
theorem zqA {G:Gm} {ok:Pd→Bool} {f:Nat→Bool} {i:Nat} (h:zdr G ok f) (hi:i<G.prods.length) (hl:f (G.prods.getD i pd0).left.toNat=true) (ho:ok (G.prods.getD i pd0)=true) {x:Int} (hx:x ∈ (G.prods.getD i pd0).right) (hk:(G.nk:Int)≤x):zdr G ok (upd f (x - G.nk).toNat):=by
 refine⟨zl2 _ _ _ h.1,fun r hr=>?_⟩
 rcases zjc hr with rfl | h1
 ·exact .step _ (zag hi) ho (h.2 _ hl) x hx hk
 ·exact h.2 r h1
theorem zkc {G:Gm} {ok:Pd→Bool} {f:Nat→Bool} (h:zdr G ok f) (hs:zjV G ok f):f=zp5 G ok:=by
 funext r
 rw[Bool.eq_iff_iff,zmC]
 refine⟨h.2 r,fun hn=>?_⟩
 induction hn with
 | start=>exact h.1
 | step p hp ho _ x hx hk ih =>
   obtain⟨i,hi,rfl⟩:=zdN hp
   exact hs i hi ih ho x hx hk
end Go.Proofs.YtagohbpbgjelaaaGreatDoor

namespace Go.Proofs.YtagohbpbgjelaaaGreatDoor
open Go.RowKit

set_option maxHeartbeats 2000000 in
set_option maxRecDepth 100000 in
theorem zdB (G:Gm) (hG:GOk G) (ka pa ra qa:Option Addr) (kc pc rc qc:Nat) (B:Nat) (w:World) (hB:B≤w.heap.size) (hin:GIn B w G ka pa ra qa) :
 Calls Tryz.prog 41 #[.agg #[.slice ka G.kinds.length kc,.slice pa G.precs.length pc,.slice ra G.rules.length rc,.slice qa G.prods.length qc,.int .i64 G.start]] w fun e w'=>∃ b,e=.returned (.slice (some ⟨b,0,none⟩) G.nr G.nr)∧w.heap.size≤b∧w'.rowIs b 4 G.nr (fun r=>.bool (zcQ G r))∧Below w.heap.size w w':=by
 have hnr:=hG.r2;have hnr1:=hG.r1;have hqs:=hG.ps
 have hmk:=fun w=>run_make_row' (P:=Tryz.prog) 28 4 (.bool false) 1 Tryz.underlying28 zlx rfl .i64 .i64 G.rules.length (by unfold Gm.nr at hnr;omega) (by unfold Gm.nr at hnr;omega) w
 have HG:=zaa hG;have Hin:=zaa hin
 clear hG hin
 have Hst:=zaa (zbt (kc:=kc) (pc:=pc) (rc:=rc) (qc:=qc) hB (uh Hin) 26)
 have hb1:Below w.heap.size w (w.alloc (.cells #[.slice ka G.kinds.length kc,.slice pa G.precs.length pc,.slice ra G.rules.length rc,.slice qa G.prods.length qc,.int .i64 G.start] 26)):=(Below.refl _ _).alloc (Nat.le_refl _) _
 have hw1:(w.alloc (.cells #[.slice ka G.kinds.length kc,.slice pa G.precs.length pc,.slice ra G.rules.length rc,.slice qa G.prods.length qc,.int .i64 G.start] 26)).heap.size=w.heap.size+1:=by simp
 have hnot:=zaG
 go_enter Tryz.func41,Tryz.ntmps41
 go_wp2
 generalize w.alloc (.cells #[.slice ka G.kinds.length kc,.slice pa G.precs.length pc,.slice ra G.rules.length rc,.slice qa G.prods.length qc,.int .i64 G.start] 26)=w1 at *
 have hr0:=World.rowIs_made w1 (.bool false) G.rules.length 4
 rw[hw1] at hr0
 have Hr0:=zaa hr0;have Hb1:=zaa hb1
 clear hr0 hb1 hmk
 go_loopw [4] (fun x wr=>∃ (f:Nat→Bool) (ag:Bool),x=.bool ag∧wr.rowIs (w.heap.size+1) 4 G.rules.length (fun r=>.bool (f r))∧zeY G f∧(ag=false→zjW G f)∧Below (w.heap.size+1) w1 wr) (fun x wr=>2 * zcw (znc wr (w.heap.size+1)) G.rules.length+ziX x)
 case atStart=>exact⟨fun _=>false,true,rfl,uh Hr0,(fun r h=>by cases h),(fun h=>by cases h),(Below.refl _ _).alloc (by omega) _⟩
 case round =>
  obtain⟨f,ag,rfl,hrow,hsnd,hsh,hb⟩:=hrel
  have hcnt:=zh4 hrow
  have Hsnd:=zaa hsnd;have Hsh:=zaa hsh;have Hb:=zaa hb;have Hrow:=zaa hrow
  clear hsnd hsh hb hrow
  cases ag
  ·have Hd:=zaa (zkd (uh Hsnd) (uh Hsh rfl))
   clear Hsh Hsnd hcnt
   rw[uh Hd] at Hrow
   clear Hd
   go_wp2
   go_ret
   exact⟨_,rfl,by omega,uh Hrow,(uh Hb1).trans (zab (uh Hb) (by omega))⟩
  ·clear Hsh
   go_wp2
   go_loopw [4,5,6] (fun x y z W=>∃ (f2:Nat→Bool) (ag:Bool) (k:Nat),x=.bool ag∧y=.int .i64 k∧k≤G.prods.length∧W.rowIs (w.heap.size+1) 4 G.rules.length (fun r=>.bool (f2 r))∧zeY G f2∧((ag=false∧f2=f∧∀ j,j<k→zdm G f (G.prods.getD j pd0)=false)∨(ag=true∧zcw f2 G.rules.length<zcw f G.rules.length))∧Below (w.heap.size+1) w1 W) (fun _ y _ _=>G.prods.length - (intOf y).toNat)
   case atStart=>exact⟨f,false,0,rfl,rfl,Nat.zero_le _,uh Hrow,uh Hsnd,.inl ⟨rfl,rfl,fun j hj=>absurd hj (Nat.not_lt_zero _)⟩,uh Hb⟩
   case round =>
    obtain⟨f2,ag,k,rfl,rfl,hk,hrow2,hsnd2,hst2,hb2⟩:=hrel
    have Hsnd2:=zaa hsnd2;have Hst2:=zaa hst2;have Hb2:=zaa hb2;have Hrow2:=zaa hrow2
    clear hsnd2 hst2 hb2 hrow2
    have hst:=zan (uh Hb2) hB (uh Hst)
    have g0:=hst.c0;have g1:=hst.c1;have g2:=hst.c2;have g3:=hst.c3;have g4:=hst.c4
    have Hgin:=zaa hst.gin
    clear hst
    by_cases hlt:k<G.prods.length
    ·have hlt':(k:Int)<G.prods.length:=by omega
     obtain⟨b,off,rfl,hbB,rr,rrc,x3,x4,x5,x6,n6,c6,hrr,hac,q0,q1,q2,q3,q4,q5,q6⟩:=zbz (uh Hgin).prods hlt
     obtain⟨hl0,hl1⟩:=(uh HG).pl _ (zag hlt)
     have hpr:=(uh HG).pr _ (zag hlt)
     have hpy:=(uh HG).py _ (zag hlt)
     have Hnu:=zaa (fun hs=>zqF (uh Hsnd2) hlt hs)
     have Hsp:Hid (zdm G f2 (G.prods.getD k pd0)=(!f2 (G.prods.getD k pd0).left.toNat && za9 G.nk f2 (G.prods.getD k pd0).right)):=zaa rfl
     have Hjs:Hid (∀ j,j<k+1→G.prods.getD j pd0=G.prods.getD k pd0∨j<k):=zaa (fun j hj=>by
      by_cases e:j=k
      ·exact .inl (by rw[e])
      ·exact .inr (by omega))
     generalize G.prods.getD k pd0=p at *
     obtain⟨pl,prt,plv,pac⟩:=p
     simp only at hl0 hl1 hpr hpy hrr hac q0 q1 q2 Hsp Hnu
     obtain⟨l,rfl⟩:∃ l:Nat,pl=(l:Int):=⟨pl.toNat,by omega⟩
     simp only[Int.toNat_natCast] at Hsp Hnu
     have hl2:l<G.rules.length:=by unfold Gm.nr at hl1;omega
     have hl1':(l:Int)<G.rules.length:=by omega
     obtain⟨p0,p1,-,-,-,-,-,hw3,hb3⟩:=zrD wr (.int .i64 (l:Int)) (.slice rr prt.length rrc) (.int .i64 plv) (.int .i64 x3) (.int .i64 x4) (.string x5) (.slice x6 n6 c6) 89
     have hrow3:=(uh Hrow2).of_block (hb3.block _ (uh Hrow2).lt)
     have hsz2:=(uh Hb2).size
     have hrr3:=zau (zab hb3 (by omega)) hrr
     have HE:=zaa (zfa ka pa ra (some ⟨b,off,none⟩) G.kinds.length kc G.precs.length pc G.rules.length rc G.prods.length qc G.start (w.heap.size+1) G.rules.length f2 rr rrc prt B _ (by omega) (by unfold Gm.nr at hnr;exact hnr) (by omega) hrr3 hpy hrow3)
     have co:=hrow3.cell hl2
     have fo:=hrow3.frozen l
     have Hac:=zaa hac
     clear hac hpy hrr hrr3
     have hst3:=zan (zab hb3 (by omega)) hB (zan (uh Hb2) hB (uh Hst))
     have e0:=hst3.c0;have e1:=hst3.c1;have e2:=hst3.c2;have e3:=hst3.c3;have e4:=hst3.c4
     have Hb3:=zaa hb3;have Hrow3:=zaa hrow3
     clear hst3 hb3 hrow3
     have Hbb:=zaa ((uh Hb2).trans (zab (uh Hb3) (by omega)))
     have Hst4:Hid (zdm G f2 ⟨(l:Int),prt,plv,pac⟩=false→((ag=false∧f2=f∧∀ j,j<k+1→zdm G f (G.prods.getD j pd0)=false)∨(ag=true∧zcw f2 G.rules.length<zcw f G.rules.length))):=zaa (fun hn=>by
      rcases uh Hst2 with ⟨h1,rfl,h3⟩ | h
      ·refine .inl ⟨h1,rfl,fun j hj=>?_⟩
       rcases uh Hjs j hj with h | h
       ·rw[h];exact hn
       ·exact h3 j h
      ·exact .inr h)
     have Hst5:Hid (f2 l=false→zcw (upd f2 l) G.rules.length<zcw f G.rules.length):=zaa (fun hn=>by
      have:=zkP hl2 hn
      rcases uh Hst2 with ⟨h1,rfl,h3⟩ | h
      ·exact this
      ·have:=h.2;omega)
     clear Hst2 Hjs Hgin
     cases hfl:f2 l
     ·rw[hfl] at co Hsp Hst5
      cases hE:za9 G.kinds.length f2 prt
      ·rw[show za9 G.nk f2 prt=za9 G.kinds.length f2 prt from rfl,hE] at Hsp
       rw[hE] at HE
       have Hst6:=zaa (uh Hst4 (uh Hsp))
       clear hfl hE Hsp Hst4 Hst5 Hnu
       go_wp2_with fail
       refine(uh HE).mono ?_
       rintro e w4 ⟨rfl,hb4⟩
       have Hb4:=zaa hb4
       clear hb4
       go_wp2
       go_roundw
       case rel=>exact⟨f2,ag,k+1,rfl,by go_num,by omega,(uh Hrow3).of_block ((uh Hb4).block _ (uh Hrow3).lt),uh Hsnd2,uh Hst6,(uh Hbb).trans (zab (uh Hb4) (by omega))⟩
       case measure=>simp[intOf];omega
      ·rw[show za9 G.nk f2 prt=za9 G.kinds.length f2 prt from rfl,hE] at Hsp
       rw[hE] at HE
       have Hnu2:=zaa (uh Hnu (uh Hsp))
       have Hst6:=zaa (uh Hst5 rfl)
       clear hfl hE Hsp Hst4 Hst5 Hnu
       go_wp2_with fail
       refine(uh HE).mono ?_
       rintro e w4 ⟨rfl,hb4⟩
       have Hb4:=zaa hb4
       have hrow4:=(uh Hrow3).of_block (hb4.block _ (uh Hrow3).lt)
       have co4:=hrow4.cell hl2
       have fo4:=hrow4.frozen l
       have p04:=(hb4.cell (p:=⟨wr.heap.size,0,none⟩) (by show wr.heap.size<_;omega)).trans p0
       have Hrow4:=zaa hrow4
       clear hb4 hrow4
       go_wp2
       go_roundw
       case rel=>exact⟨upd f2 l,true,k+1,rfl,by go_num,by omega,zil (uh Hrow4) l,uh Hnu2,.inr ⟨rfl,uh Hst6⟩,((uh Hbb).trans (zab (uh Hb4) (by omega))).setCell (by show w.heap.size+1≤w.heap.size+1;omega) _⟩
       case measure=>simp[intOf];omega
     ·rw[hfl] at co Hsp
      have Hst6:=zaa (uh Hst4 (uh Hsp))
      clear hfl Hsp Hst4 Hst5 Hnu HE
      go_wp2
      go_roundw
      case rel=>exact⟨f2,ag,k+1,rfl,by go_num,by omega,uh Hrow3,uh Hsnd2,uh Hst6,uh Hbb⟩
      case measure=>simp[intOf];omega
    ·obtain rfl:k=G.prods.length:=by omega
     have Hst7:Hid ((ag=false→zjW G f2)∧2 * zcw f2 G.rules.length+ziX (.bool ag)<2 * zcw f G.rules.length+1):=zaa (by
      rcases uh Hst2 with ⟨rfl,rfl,h3⟩ | ⟨rfl,h⟩
      ·exact⟨fun _=>h3,by simp[ziX]⟩
      ·exact⟨(fun h=>by cases h),(by simp[ziX];omega)⟩)
     have hc2:=zh4 (uh Hrow2)
     go_wp2
     go_roundw
     case rel=>exact⟨f2,ag,rfl,uh Hrow2,uh Hsnd2,(uh Hst7).1,uh Hb2⟩
     case measure =>
      have:=(uh Hst7).2
      rw[hc2,hcnt]
      exact this
end Go.Proofs.YtagohbpbgjelaaaGreatDoor

namespace Go.Proofs.YtagohbpbgjelaaaGreatDoor
open Go.RowKit

def okP (G:Gm) (f was:Nat→Int) (p:Pd):Bool:=za9 G.nk (fun r=>decide (0≤was r)) p.right && decide (zgM G.nk f p.right 0=f p.left.toNat)
end Go.Proofs.YtagohbpbgjelaaaGreatDoor

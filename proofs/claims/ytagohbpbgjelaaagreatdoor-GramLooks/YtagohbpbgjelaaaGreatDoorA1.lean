/- The document's name, Kinds (layer 7's). -/
import Derived.Test.YtagohbpbgjelaaaGreatDoorP0
namespace Go.Proofs.YtagohbpbgjelaaaGreatDoor
open Go.RowKit

def bt (s:ByteArray) (i:Nat):Nat:=(s.get! i).toNat
theorem bt_get (s:ByteArray) (i:Nat) (h:i<s.size):bt s i=(s[i]'h).toNat:=by
 have:s.get! i=s[i]'h:=by simp[ByteArray.get!,getElem!_pos,h];rfl
 rw[bt,this]
theorem srow_all {B:Nat} {w:World} {a:Option Addr} {l:List (List UInt8)} (h:SRow B w a l) (hB:B≤w.heap.size) {k:Nat} (hk:k<l.length):∃ b off,a=some ⟨b,off,none⟩∧b<w.heap.size∧∀ j,j<l.length→w.cell? ⟨b,off+j,none⟩=some (.string (bs (l.getD j []))):=by
 rcases h with rfl | ⟨b,off,h1,h2,h3⟩
 · simp at hk
 · exact⟨b,off,h1,by omega,h3⟩
theorem index_bt (s:ByteArray) (j:Nat) (h:j<s.size) (w:World):(Instr.index 9 (.string s) (.int .i64 (j:Int))).run Tryz.prog w=.ok (.int .u8 (bt s j:Int)) w:=by
 rw[run_index_string w 9 s .i64 (j:Int) Tryz.underlying9,dif_pos (by omega)]
 simp[bt_get s j h]

def letB (c:Nat):Bool:=decide ((65≤c∧c≤90)∨(97≤c∧c≤122)∨c=95)
def digB (c:Nat):Bool:=decide (48≤c∧c≤57)
def allTo (s:ByteArray) (k:Nat):Prop:=∀ i,i<k→letB (bt s i)=true∨digB (bt s i)=true
instance (s:ByteArray) (k:Nat):Decidable (allTo s k):=by unfold allTo;infer_instance
def nameB (s:ByteArray):Bool:=decide (1≤s.size∧s.size≤64∧digB (bt s 0)=false∧allTo s s.size)

theorem nameB_of {s:ByteArray} (h1:1≤s.size) (h2:s.size≤64):nameB s=decide (digB (bt s 0)=false∧allTo s s.size):=by
 unfold nameB;rw[decide_eq_decide];exact⟨fun h=>h.2.2,fun h=>⟨h1,h2,h⟩⟩
def docTo (s:ByteArray) (k:Nat):Prop:=∀ i,i<k→letB (bt s i)=true∨(i≠0∧digB (bt s i)=true)
theorem let_dig (c:Nat):letB c=true→digB c=false:=by
 simp only[letB,digB,decide_eq_true_eq,decide_eq_false_iff_not];omega
theorem docTo_iff {s:ByteArray} (h:1≤s.size):docTo s s.size↔digB (bt s 0)=false∧allTo s s.size:=by
 constructor
 · intro hd
   refine⟨?_,fun i hi=>?_⟩
   · rcases hd 0 (by omega) with h | h
     · exact let_dig _ h
     · exact absurd rfl h.1
   · rcases hd i hi with h | h
     · exact .inl h
     · exact .inr h.2
 · rintro⟨h0,ha⟩ i hi
   rcases ha i hi with h | h
   · exact .inl h
   · by_cases e:i=0
     · subst e;rw[h0] at h;cases h
     · exact .inr ⟨e,h⟩

set_option maxHeartbeats 4000000 in
set_option maxRecDepth 100000 in
theorem rName_any (s : ByteArray) (w : World) : Calls Tryz.prog 96 #[.string s] w fun e w' => e = .returned (.bool (nameB s)) ∧ w = w' := by
 by_cases h0:s.size<1
 · rw[show nameB s=false by unfold nameB;rw[decide_eq_false_iff_not];omega]
   have h0':(s.size:Int)<1:=by omega
   go_enter Tryz.func96,Tryz.ntmps96
   go_wp2
   go_ret
   exact⟨rfl,rfl⟩
 have h0':¬ (s.size:Int)<1:=by omega
 by_cases h1:64<s.size
 · rw[show nameB s=false by unfold nameB;rw[decide_eq_false_iff_not];omega]
   have h1':(64:Int)<s.size:=by omega
   go_enter Tryz.func96,Tryz.ntmps96
   go_wp2
   go_ret
   exact⟨rfl,rfl⟩
 have h1':¬ (64:Int)<s.size:=by omega
 have Hyes:=hide (fun(h:docTo s s.size)=>show nameB s=true by rw[nameB_of (by omega) (by omega)];exact decide_eq_true ((docTo_iff (by omega)).1 h))
 have Hno:=hide (fun(h:¬ docTo s s.size)=>show nameB s=false by rw[nameB_of (by omega) (by omega)];exact decide_eq_false (fun k=>h ((docTo_iff (by omega)).2 k)))
 generalize nameB s=R at *
 go_enter Tryz.func96,Tryz.ntmps96
 go_wp2
 go_loop [3] (fun x=>∃ k:Nat,x=.int .i64 k∧k≤s.size∧docTo s k) (fun x=>s.size - (intOf x).toNat)
 case atStart=>exact⟨0,rfl,Nat.zero_le _,fun i hi=>absurd hi (Nat.not_lt_zero _)⟩
 case round =>
   obtain⟨k,rfl,hk,hall⟩:=hrel
   have Hall:=hide hall
   clear hall
   by_cases hlt:k<s.size
   · have hlt' : (k : Int) < s.size := by omega
     have ik:=index_bt s k hlt
     have Hs:=hide (fun(h:letB (bt s k)=true∨(k≠0∧digB (bt s k)=true))=>show docTo s (k+1) from fun i hi=>by
       by_cases e:i=k
       · subst e;exact h
       · exact uh Hall i (by omega))
     have Hn:=hide (fun(h:¬ (letB (bt s k)=true∨(k≠0∧digB (bt s k)=true)))=>uh Hno (fun hd=>h (hd k hlt)))
     have Hl:=hide (show letB (bt s k)=decide ((65≤bt s k∧bt s k≤90)∨(97≤bt s k∧bt s k≤122)∨bt s k=95) from rfl)
     have Hd:=hide (show digB (bt s k)=decide (48≤bt s k∧bt s k≤57) from rfl)
     generalize bt s k=c at *
     go_wp2
     all_goals first
       | (go_ret;rw[uh Hn (by rw[uh Hl,uh Hd];simp only[decide_eq_true_eq];first | omega | (simp at *;omega))];exact⟨rfl,rfl⟩)
       | (go_round
          case rel=>exact⟨k+1,by go_num,by omega,uh Hs (by rw[uh Hl,uh Hd];simp only[decide_eq_true_eq];first | omega | (simp at *;omega))⟩
          case measure=>simp[intOf];omega)
   · obtain rfl:k=s.size:=by omega
     have Hr:=hide (uh Hyes (uh Hall))
     go_wp2
     go_ret
     rw[uh Hr]
     exact⟨rfl,rfl⟩
def endS:List UInt8:=[101,110,100]
def errS:List UInt8:=[101,114,114,111,114]
def goodTo (ns:List (List UInt8)) (k:Nat):Prop:=∀ j,j<k→nameB (bs (ns.getD j []))=true
instance (ns:List (List UInt8)) (k:Nat):Decidable (goodTo ns k):=by unfold goodTo;infer_instance
def kindsB (ns:List (List UInt8)):Bool:=decide (2≤ns.length∧ns.length≤1024∧ns.getD 0 []=endS∧ns.getD 1 []=errS∧goodTo ns ns.length∧ns.Nodup)
theorem kinds_no {ns:List (List UInt8)} (h:¬ (2≤ns.length∧ns.length≤1024∧ns.getD 0 []=endS∧ns.getD 1 []=errS∧goodTo ns ns.length∧ns.Nodup)):kindsB ns=false:=decide_eq_false h
theorem nameB_le {s:ByteArray} (h:nameB s=true):s.size≤64:=(of_decide_eq_true h).2.1

def apartTo (ns:List (List UInt8)) (i k:Nat):Prop:=∀ j,j<k→ns.getD j []≠ns.getD i []
def distTo (ns:List (List UInt8)) (k:Nat):Prop:=∀ i,i<k→apartTo ns i i
theorem dist_nodup {ns:List (List UInt8)} (h:distTo ns ns.length):ns.Nodup:=by
 rw[List.Nodup,List.pairwise_iff_getElem]
 intro i j hi hj hij
 have:=h j hj i hij
 rwa [List.getD_eq_getElem?_getD,List.getD_eq_getElem?_getD,List.getElem?_eq_getElem hi,List.getElem?_eq_getElem hj] at this
theorem nodup_dist {ns:List (List UInt8)} (h:ns.Nodup):distTo ns ns.length:=by
 rw[List.Nodup,List.pairwise_iff_getElem] at h
 intro i hi j hj
 have:=h j i (by omega) hi hj
 rwa [List.getD_eq_getElem?_getD,List.getD_eq_getElem?_getD,List.getElem?_eq_getElem hi,List.getElem?_eq_getElem (by omega:j<ns.length)]

set_option maxHeartbeats 4000000 in
set_option maxRecDepth 100000 in
theorem rKinds_any (a : Option Addr) (cap : Nat) (ns : List (List UInt8)) (B : Nat) (w : World) (hB : B ≤ w.heap.size) (hrow : SRow B w a ns) :
   Calls Tryz.prog 51 #[.slice a ns.length cap] w fun e w'=>e=.returned (.bool (kindsB ns))∧Below w.heap.size w w':=by
 by_cases h0:ns.length<2
 · rw[show kindsB ns=false from kinds_no (by omega)]
   have h0':(ns.length:Int)<2:=by omega
   go_enter Tryz.func51,Tryz.ntmps51
   go_wp2
   go_ret
   exact⟨rfl,Below.refl _ _⟩
 have h0':¬ (ns.length:Int)<2:=by omega
 by_cases h1:1024<ns.length
 · rw[show kindsB ns=false from kinds_no (by omega)]
   have h1':(1024:Int)<ns.length:=by omega
   go_enter Tryz.func51,Tryz.ntmps51
   go_wp2
   go_ret
   exact⟨rfl,Below.refl _ _⟩
 have h1':¬ (1024:Int)<ns.length:=by omega
 obtain⟨b,off,rfl,hb,hc⟩:=srow_all hrow hB (k:=0) (by omega)
 have c0:=hc 0 (by omega)
 have c1:=hc 1 (by omega)
 have i0:(0:Int)<ns.length:=by omega
 have i1:(1:Int)<ns.length:=by omega
 by_cases h2:ns.getD 0 []=endS
 · rw [h2] at c0
   by_cases h3:ns.getD 1 []=errS
   · rw [h3] at c1
     have c0':w.cell? ⟨b,off,none⟩=some (.string ⟨#[101,110,100]⟩):=c0
     have c1':w.cell? ⟨b,off+1,none⟩=some (.string ⟨#[101,114,114,111,114]⟩):=c1
     have Hyes:Hid (goodTo ns ns.length∧distTo ns ns.length→kindsB ns=true):=hide fun h=>decide_eq_true ⟨by omega,by omega,h2,h3,h.1,dist_nodup h.2⟩
     have Hno:Hid (¬ (goodTo ns ns.length∧distTo ns ns.length)→kindsB ns=false):=hide fun h=>kinds_no (fun k=>h ⟨k.2.2.2.2.1,nodup_dist k.2.2.2.2.2⟩)
     have Hc:=hide hc
     generalize kindsB ns=R at *
     clear hrow hc c0 c1 h2 h3
     go_enter Tryz.func51,Tryz.ntmps51
     go_wp2
     go_loopw [3] (fun x wr=>∃ k:Nat,x=.int .i64 k∧k≤ns.length∧goodTo ns k∧distTo ns k∧Below w.heap.size w wr) (fun x _=>ns.length - (intOf x).toNat)
     case atStart=>exact⟨0,rfl,Nat.zero_le _,(fun i hi=>absurd hi (Nat.not_lt_zero _)),(fun i hi=>absurd hi (Nat.not_lt_zero _)),Below.refl _ _⟩
     case round =>
       obtain⟨k,rfl,hk,hgood,hdist,hbel⟩:=hrel
       have Hg:=hide hgood;have Hd:=hide hdist;have Hbel:=hide hbel
       clear hgood hdist hbel c0' c1'
       by_cases hlt:k<ns.length
       · have hlt' : (k : Int) < ns.length := by omega
         have ck:=((uh Hbel).cell (p:=⟨b,off+k,none⟩) hb).trans (uh Hc k hlt)
         have HN:=hide (rName_any (bs (ns.getD k [])))
         cases hn:nameB (bs (ns.getD k []))
         · rw[hn] at HN
           have Hr:Hid (R=false):=hide (uh Hno (by
             intro h;have:=h.1 k hlt;rw[hn] at this;cases this))
           clear hn
           generalize bs (ns.getD k [])=s at *
           go_wp2_with fail
           refine(uh HN _).mono ?_
           rintro e w' ⟨rfl,rfl⟩
           go_wp2
           go_ret
           rw[uh Hr]
           exact⟨rfl,uh Hbel⟩
         · rw [hn] at HN
           have Hg':Hid (goodTo ns (k+1)):=hide (by
             intro i hi
             by_cases e:i=k
             · subst e;exact hn
             · exact uh Hg i (by omega))
           clear hn
           generalize bs (ns.getD k [])=s at *
           go_wp2_with fail
           refine(uh HN _).mono ?_
           rintro e w' ⟨rfl,rfl⟩
           clear ck HN
           go_wp2
           go_loopw [4] (fun y W=>∃ i:Nat,y=.int .i64 i∧i≤k∧apartTo ns k i∧Below w.heap.size w W) (fun y _=>k - (intOf y).toNat)
           case atStart=>exact⟨0,rfl,Nat.zero_le _,(fun i hi=>absurd hi (Nat.not_lt_zero _)),uh Hbel⟩
           case round =>
             obtain⟨i,rfl,hi,hap,hbel2⟩:=hrel
             have Hap:=hide hap;have Hb2:=hide hbel2
             clear hap hbel2
             by_cases hil:i<k
             · have hil':(i:Int)<k:=by omega
               have hin:(i:Int)<ns.length:=by omega
               have ck:=((uh Hb2).cell (p:=⟨b,off+k,none⟩) hb).trans (uh Hc k hlt)
               have ci:=((uh Hb2).cell (p:=⟨b,off+i,none⟩) hb).trans (uh Hc i (by omega))
               by_cases he:ns.getD i []=ns.getD k []
               · have Hr:Hid (R=false):=hide (uh Hno (fun h=>h.2 k hlt i hil he))
                 rw[he] at ci
                 clear he
                 generalize bs (ns.getD k [])=s at *
                 go_wp2
                 go_quiet (fail)
                 go_wp2
                 go_ret
                 rw[uh Hr]
                 exact⟨rfl,below_drewN (uh Hb2) _⟩
               · have Ha':Hid (apartTo ns k (i+1)):=hide (by
                   intro j hj
                   by_cases e:j=i
                   · subst e;exact he
                   · exact uh Hap j (by omega))
                 have hne:=bs_ne he
                 clear he
                 generalize bs (ns.getD k [])=s at *
                 generalize bs (ns.getD i [])=s2 at *
                 go_wp2
                 go_quiet (fail)
                 go_wp2
                 go_roundw
                 case rel=>exact⟨i+1,by go_num,by omega,uh Ha',below_drewN (uh Hb2) _⟩
                 case measure=>simp[intOf];omega
             · obtain rfl:i=k:=by omega
               have Hd':Hid (distTo ns (i+1)):=hide (by
                 intro j hj
                 by_cases e:j=i
                 · subst e;exact uh Hap
                 · exact uh Hd j (by omega))
               go_wp2
               go_roundw
               case rel=>exact⟨i+1,by go_num,by omega,uh Hg',uh Hd',uh Hb2⟩
               case measure=>simp[intOf];omega
       · obtain rfl:k=ns.length:=by omega
         have Hr:Hid (R=true):=hide (uh Hyes ⟨uh Hg,uh Hd⟩)
         go_wp2
         go_ret
         rw[uh Hr]
         exact⟨rfl,uh Hbel⟩
   · rw[show kindsB ns=false from kinds_no (fun h=>h3 h.2.2.2.1)]
     have c0':w.cell? ⟨b,off,none⟩=some (.string ⟨#[101,110,100]⟩):=c0
     have hne:((bs (ns.getD 1 [])).toList == [101,114,114,111,114])=false:=by rw[bs_toList,beq_eq_false_iff_ne];exact h3
     clear hc c0 hrow h2 h3
     generalize bs (ns.getD 1 [])=s at *
     go_enter Tryz.func51,Tryz.ntmps51
     go_wp2
     go_ret
     exact⟨rfl,Below.refl _ _⟩
 · rw[show kindsB ns=false from kinds_no (fun h=>h2 h.2.2.1)]
   have hne:((bs (ns.getD 0 [])).toList == [101,110,100])=false:=by rw[bs_toList,beq_eq_false_iff_ne];exact h2
   clear hc hrow h2 c1
   rw[Nat.add_zero] at c0
   generalize bs (ns.getD 0 [])=s at *
   go_enter Tryz.func51,Tryz.ntmps51
   go_wp2
   go_ret
   exact⟨rfl,Below.refl _ _⟩
end Go.Proofs.YtagohbpbgjelaaaGreatDoor

namespace Go.Proofs.YtagohbpbgjelaaaGreatDoor
open Go.RowKit

def longTo (ns:List (List UInt8)) (k:Nat):Prop:=∀ j,j<k→1≤(ns.getD j []).length∧(ns.getD j []).length≤4096
instance (ns:List (List UInt8)) (k:Nat):Decidable (longTo ns k):=by unfold longTo;infer_instance
def namesB (ns:List (List UInt8)):Bool:=decide (1≤ns.length∧ns.length≤2048∧longTo ns ns.length∧ns.Nodup)
theorem names_no {ns:List (List UInt8)} (h:¬ (1≤ns.length∧ns.length≤2048∧longTo ns ns.length∧ns.Nodup)):namesB ns=false:=decide_eq_false h

set_option maxHeartbeats 4000000 in
set_option maxRecDepth 100000 in
theorem rNames_any (a : Option Addr) (cap : Nat) (ns : List (List UInt8)) (B : Nat) (w : World) (hB : B ≤ w.heap.size) (hrow : SRow B w a ns) :
   Calls Tryz.prog 53 #[.slice a ns.length cap] w fun e w'=>e=.returned (.bool (namesB ns))∧Below w.heap.size w w':=by
 by_cases h0:ns.length<1
 · rw[show namesB ns=false from names_no (by omega)]
   have h0':(ns.length:Int)<1:=by omega
   go_enter Tryz.func53,Tryz.ntmps53
   go_wp2
   go_ret
   exact⟨rfl,Below.refl _ _⟩
 have h0':¬ (ns.length:Int)<1:=by omega
 by_cases h1:2048<ns.length
 · rw[show namesB ns=false from names_no (by omega)]
   have h1':(2048:Int)<ns.length:=by omega
   go_enter Tryz.func53,Tryz.ntmps53
   go_wp2
   go_ret
   exact⟨rfl,Below.refl _ _⟩
 have h1':¬ (2048:Int)<ns.length:=by omega
 obtain⟨b,off,rfl,hb,hc⟩:=srow_all hrow hB (k:=0) (by omega)
 have Hyes:Hid (longTo ns ns.length∧distTo ns ns.length→namesB ns=true):=hide fun h=>decide_eq_true ⟨by omega,by omega,h.1,dist_nodup h.2⟩
 have Hno:Hid (¬ (longTo ns ns.length∧distTo ns ns.length)→namesB ns=false):=hide fun h=>names_no (fun k=>h ⟨k.2.2.1,nodup_dist k.2.2.2⟩)
 have Hc:=hide hc
 generalize namesB ns=R at *
 clear hrow hc
 go_enter Tryz.func53,Tryz.ntmps53
 go_wp2
 go_loopw [3] (fun x wr=>∃ k:Nat,x=.int .i64 k∧k≤ns.length∧longTo ns k∧distTo ns k∧Below w.heap.size w wr) (fun x _=>ns.length - (intOf x).toNat)
 case atStart=>exact⟨0,rfl,Nat.zero_le _,(fun i hi=>absurd hi (Nat.not_lt_zero _)),(fun i hi=>absurd hi (Nat.not_lt_zero _)),Below.refl _ _⟩
 case round =>
   obtain⟨k,rfl,hk,hgood,hdist,hbel⟩:=hrel
   have Hg:=hide hgood;have Hd:=hide hdist;have Hbel:=hide hbel
   clear hgood hdist hbel
   by_cases hlt:k<ns.length
   · have hlt' : (k : Int) < ns.length := by omega
     have ck:=((uh Hbel).cell (p:=⟨b,off+k,none⟩) hb).trans (uh Hc k hlt)
     have hsz:((bs (ns.getD k [])).size:Int)=((ns.getD k []).length:Int):=rfl
     by_cases hn:1≤(ns.getD k []).length∧(ns.getD k []).length≤4096
     · have Hg':Hid (longTo ns (k+1)):=hide (by
         intro i hi
         by_cases e:i=k
         · subst e;exact hn
         · exact uh Hg i (by omega))
       have hs1:¬ ((bs (ns.getD k [])).size:Int)<1:=by rw[hsz];omega
       have hs2:¬ (4096:Int)<(bs (ns.getD k [])).size:=by rw[hsz];omega
       clear hn hsz
       generalize bs (ns.getD k [])=s at *
       go_wp2
       go_loopw [4] (fun y W=>∃ i:Nat,y=.int .i64 i∧i≤k∧apartTo ns k i∧Below w.heap.size w W) (fun y _=>k - (intOf y).toNat)
       case atStart=>exact⟨0,rfl,Nat.zero_le _,(fun i hi=>absurd hi (Nat.not_lt_zero _)),uh Hbel⟩
       case round =>
         obtain⟨i,rfl,hi,hap,hbel2⟩:=hrel
         have Hap:=hide hap;have Hb2:=hide hbel2
         clear hap hbel2 ck
         by_cases hil:i<k
         · have hil':(i:Int)<k:=by omega
           have hin:(i:Int)<ns.length:=by omega
           have ck:=((uh Hb2).cell (p:=⟨b,off+k,none⟩) hb).trans (uh Hc k hlt)
           have ci:=((uh Hb2).cell (p:=⟨b,off+i,none⟩) hb).trans (uh Hc i (by omega))
           by_cases he:ns.getD i []=ns.getD k []
           · have Hr:Hid (R=false):=hide (uh Hno (fun h=>h.2 k hlt i hil he))
             rw[he] at ci
             clear he
             generalize bs (ns.getD k [])=s2 at *
             go_wp2
             go_quiet (fail)
             go_wp2
             go_ret
             rw[uh Hr]
             exact⟨rfl,below_drewN (uh Hb2) _⟩
           · have Ha':Hid (apartTo ns k (i+1)):=hide (by
               intro j hj
               by_cases e:j=i
               · subst e;exact he
               · exact uh Hap j (by omega))
             have hne:=bs_ne he
             clear he
             generalize bs (ns.getD k [])=s2 at *
             generalize bs (ns.getD i [])=s3 at *
             go_wp2
             go_quiet (fail)
             go_wp2
             go_roundw
             case rel=>exact⟨i+1,by go_num,by omega,uh Ha',below_drewN (uh Hb2) _⟩
             case measure=>simp[intOf];omega
         · obtain rfl:i=k:=by omega
           have Hd':Hid (distTo ns (i+1)):=hide (by
             intro j hj
             by_cases e:j=i
             · subst e;exact uh Hap
             · exact uh Hd j (by omega))
           go_wp2
           go_roundw
           case rel=>exact⟨i+1,by go_num,by omega,uh Hg',uh Hd',uh Hb2⟩
           case measure=>simp[intOf];omega
     · have Hr:Hid (R=false):=hide (uh Hno (fun h=>hn (h.1 k hlt)))
       by_cases hn1:(ns.getD k []).length<1
       · have hs1:((bs (ns.getD k [])).size:Int)<1:=by rw[hsz];omega
         clear hn hsz hn1
         generalize bs (ns.getD k [])=s at *
         go_wp2
         go_ret
         rw[uh Hr]
         exact⟨rfl,uh Hbel⟩
       · have hs1:¬ ((bs (ns.getD k [])).size:Int)<1:=by rw[hsz];omega
         have hs2:(4096:Int)<(bs (ns.getD k [])).size:=by rw[hsz];omega
         clear hn hsz hn1
         generalize bs (ns.getD k [])=s at *
         go_wp2
         go_ret
         rw[uh Hr]
         exact⟨rfl,uh Hbel⟩
   · obtain rfl:k=ns.length:=by omega
     have Hr:Hid (R=true):=hide (uh Hyes ⟨uh Hg,uh Hd⟩)
     go_wp2
     go_ret
     rw[uh Hr]
     exact⟨rfl,uh Hbel⟩

def lvlB (i:Nat) (p:Int × Int):Bool:=decide ((p.1=0∧p.2=0)∨(1≤p.1∧1≤p.2∧p.2≤3∧2≤i))
def lvlTo (l:List (Int × Int)) (k:Nat):Prop:=∀ i,i<k→lvlB i (l.getD i (0,0))=true
instance (l:List (Int × Int)) (k:Nat):Decidable (lvlTo l k):=by unfold lvlTo;infer_instance
def levelsB (l:List (Int × Int)):Bool:=decide (lvlTo l l.length)

set_option maxHeartbeats 4000000 in
set_option maxRecDepth 100000 in
theorem rLevels_any (a : Option Addr) (cap : Nat) (l : List (Int × Int)) (hl : l.length ≤ 281474976710656) (B : Nat) (w : World) (hB : B ≤ w.heap.size) (hrow : LRow B w a l) :
   Calls Tryz.prog 52 #[.slice a l.length cap] w fun e w'=>e=.returned (.bool (levelsB l))∧Below w.heap.size w w':=by
 have Hyes:Hid (lvlTo l l.length→levelsB l=true):=hide fun h=>decide_eq_true h
 have Hno:Hid (¬ lvlTo l l.length→levelsB l=false):=hide fun h=>decide_eq_false h
 generalize levelsB l=R at *
 have Hrow:=hide hrow
 clear hrow
 have hnot:=run_not
 go_enter Tryz.func52,Tryz.ntmps52
 go_wp2
 go_loopw [3] (fun x wr=>∃ k:Nat,x=.int .i64 k∧k≤l.length∧lvlTo l k∧Below w.heap.size w wr) (fun x _=>l.length - (intOf x).toNat)
 case atStart=>exact⟨0,rfl,Nat.zero_le _,(fun i hi=>absurd hi (Nat.not_lt_zero _)),Below.refl _ _⟩
 case round =>
   obtain⟨k,rfl,hk,hgood,hbel⟩:=hrel
   have Hg:=hide hgood;have Hbel:=hide hbel
   clear hgood hbel
   by_cases hlt:k<l.length
   · have hlt' : (k : Int) < l.length := by omega
     obtain⟨b,off,rfl,hb,c0,c1⟩:=lrow_at (lrow_kept (below_le (uh Hbel) hB) (uh Hrow)) hlt
     have Hs:=hide (fun(h:lvlB k (l.getD k (0,0))=true)=>show lvlTo l (k+1) from fun i hi=>by
       by_cases e:i=k
       · subst e;exact h
       · exact uh Hg i (by omega))
     have Hn:=hide (fun(h:lvlB k (l.getD k (0,0))=false)=>uh Hno (fun hd=>by rw[hd k hlt] at h;cases h))
     generalize l.getD k (0,0)=p at *
     obtain⟨x,y⟩:=p
     simp only at c0 c1
     have Hs2:=hide (fun(h:(x=0∧y=0)∨(1≤x∧1≤y∧y≤3∧2≤k))=>uh Hs (decide_eq_true h))
     have Hn2:=hide (fun(h:¬ ((x=0∧y=0)∨(1≤x∧1≤y∧y≤3∧2≤k)))=>uh Hn (decide_eq_false h))
     clear Hs Hn
     go_wp2
     all_goals first
       | (go_ret;rw[uh Hn2 (by first | omega | (simp at *;omega))];exact⟨rfl,uh Hbel⟩)
       | (go_roundw
          case rel=>exact⟨k+1,by go_num,by omega,uh Hs2 (by first | omega | (simp at *;omega)),uh Hbel⟩
          case measure=>simp[intOf];omega)
   · obtain rfl:k=l.length:=by omega
     have Hr:Hid (R=true):=hide (uh Hyes (uh Hg))
     go_wp2
     go_ret
     rw[uh Hr]
     exact⟨rfl,uh Hbel⟩
end Go.Proofs.YtagohbpbgjelaaaGreatDoor

namespace Go.Proofs.YtagohbpbgjelaaaGreatDoor
open Go.RowKit

def okA (k p:Int) (n:List UInt8) (m:Nat) (sy:Int):Prop:=(k=0∧p=0∧n=[]∧m=0)∨(k=1∧0≤p∧p<sy∧n=[]∧m=0)∨(k=3∧n.length≤4096∧p=0∧m=0)∨(k=2∧1≤n.length∧n.length≤32∧p=0)
instance (k p:Int) (n:List UInt8) (m:Nat) (sy:Int):Decidable (okA k p n m sy):=by unfold okA;infer_instance
mutual
def partsA:Ac→Int→Int→Int
 | .mk k p n ks,sy,left=>if left - 1<0 then -1 else if okA k p n ks.length sy then partsL ks sy (left - 1) else -1
def partsL:List Ac→Int→Int→Int
 | [],_,l=>l
 | t::ts,sy,l=>if l<0 then l else partsL ts sy (partsA t sy l)
end
mutual
theorem parts_bd:∀ (t:Ac) (sy l:Int),0≤l → -1≤partsA t sy l∧partsA t sy l≤l - 1
 | .mk k p n ks, sy, l, h => by
   unfold partsA
   split
   · omega
   · split
     · exact partsL_bd ks sy (l - 1) (by omega)
     · omega
theorem partsL_bd:∀ (ts:List Ac) (sy l:Int),-1≤l → -1≤partsL ts sy l∧partsL ts sy l≤l
 | [],sy,l,h=>by unfold partsL;omega
 | t :: ts, sy, l, h => by
   unfold partsL
   split
   · omega
   · have h1:=parts_bd t sy l (by omega)
     have h2:=partsL_bd ts sy (partsA t sy l) h1.1
     omega
end
theorem partsL_neg (ts:List Ac) (sy l:Int) (h:l<0):partsL ts sy l=l:=by
 cases ts with
 | nil=>rfl
 | cons t ts=>unfold partsL;rw[if_pos h]
theorem dropA {ks:List Ac} {i:Nat} (hi:i<ks.length):ks.drop i=ks.getD i ac0::ks.drop (i+1):=by
 rw[List.drop_eq_getElem_cons hi,List.getD_eq_getElem?_getD,List.getElem?_eq_getElem hi]
 rfl
theorem acTs_get {B:Nat} {w:World}:∀ (ts:List Ac) (vs:List Value),AcTs B w ts vs→∀ i,i<ts.length→∃ u0 u1 u2 u3,vs[i * 4]? = some u0∧vs[i * 4+1]? = some u1∧vs[i * 4+2]? = some u2∧vs[i * 4+3]? = some u3∧AcAt B w (ts.getD i ac0) u0 u1 u2 u3
 | [],_,_,i,hi=>by simp at hi
 | t :: ts, vs, h, i, hi => by
   unfold AcTs at h
   obtain⟨u0,u1,u2,u3,rest,rfl,h1,h2⟩:=h
   cases i with
   | zero=>exact⟨u0,u1,u2,u3,rfl,rfl,rfl,rfl,h1⟩
   | succ i =>
     obtain⟨x0,x1,x2,x3,e0,e1,e2,e3,hx⟩:=acTs_get ts rest h2 i (by simpa using hi)
     exact⟨x0,x1,x2,x3,by rw[show (i+1) * 4=i * 4+1+1+1+1 by omega];exact e0,by rw[show (i+1) * 4+1=i * 4+1+1+1+1+1 by omega];exact e1,by rw[show (i+1) * 4+2=i * 4+2+1+1+1+1 by omega];exact e2,by rw[show (i+1) * 4+3=i * 4+3+1+1+1+1 by omega];exact e3,hx⟩
theorem boxA (w:World) (v0 v1 v2 v3:Value) (t:TypeId):(w.alloc (.cells #[v0,v1,v2,v3] t)).cell? ⟨w.heap.size,3,none⟩=some v3∧(w.alloc (.cells #[v0,v1,v2,v3] t)).heap.size=w.heap.size+1∧Below w.heap.size w (w.alloc (.cells #[v0,v1,v2,v3] t)):=by
 refine⟨?_,by simp,(Below.refl _ _).alloc (Nat.le_refl _) _⟩
 unfold World.cell?;rw[Go.Deep.blk_alloc_new];rfl
theorem bs_nil:((bs []).toList == [])=true:=by rw[bs_toList];rfl
theorem bs_cons {n:List UInt8} (h:n≠[]):((bs n).toList == [])=false:=by rw[bs_toList,beq_eq_false_iff_ne];exact h

set_option maxHeartbeats 4000000 in
set_option maxRecDepth 100000 in
theorem rParts_any (B : Nat) (sy : Int) (N : Nat) : N ≤ 256 → ∀ (t : Ac) (left : Int) (w : World) (v0 v1 v2 v3 : Value), B ≤ w.heap.size → AcAt B w t v0 v1 v2 v3 → 0 ≤ left → left ≤ N →
   Calls Tryz.prog 97 #[.agg #[v0,v1,v2,v3],.int .i64 sy,.int .i64 left] w fun e w'=>e=.returned (.int .i64 (partsA t sy left))∧Below w.heap.size w w':=by
 induction N with
 | zero =>
   rintro - ⟨k,p,n,ks⟩ left w v0 v1 v2 v3 hB hA h0 h1
   unfold AcAt at hA
   obtain⟨rfl,rfl,rfl,ka,kc,vs,rfl,-,-⟩:=hA
   obtain rfl:left=0:=by omega
   have HX:Hid (partsA (.mk k p n ks) sy 0 = -1):=hide (by unfold partsA;rfl)
   go_enter Tryz.func97,Tryz.ntmps97
   go_wp2
   go_ret
   rw[uh HX]
   exact⟨rfl,(Below.refl _ _).alloc (Nat.le_refl _) _⟩
 | succ N ih =>
   rintro hN ⟨k,p,n,ks⟩ left w v0 v1 v2 v3 hB hA h0 h1
   have ih:=ih (by omega)
   unfold AcAt at hA
   obtain⟨rfl,rfl,rfl,ka,kc,vs,rfl,hts,hkc⟩:=hA
   by_cases hl:left - 1<0
   · obtain rfl:left=0:=by omega
     have HX:Hid (partsA (.mk k p n ks) sy 0 = -1):=hide (by unfold partsA;rfl)
     go_enter Tryz.func97,Tryz.ntmps97
     go_wp2
     go_ret
     rw[uh HX]
     exact⟨rfl,(Below.refl _ _).alloc (Nat.le_refl _) _⟩
   obtain⟨l1,hl1⟩:∃ l1:Int,left - 1=l1:=⟨_,rfl⟩
   have hw1:IntKind.i64.wrap l1=l1:=by rw[IntKind.wrap_i64];omega
   have hl1n:¬ l1<0:=by omega
   have hl1N:l1≤N:=by omega
   have hnot:=run_not
   obtain⟨z3,hw3,hb1⟩:=boxA w (.int .i64 k) (.int .i64 p) (.string (bs n)) (.slice ka ks.length kc) 87
   have Hz3:=hide z3;have Hb1:=hide hb1
   have Hih:=hide ih;have Hts:=hide hts;have Hkc:=hide hkc
   have hszn:((bs n).size:Int)=(n.length:Int):=rfl
   clear ih hts hkc z3 hb1
   by_cases hok:okA k p n ks.length sy
   · have HX : Hid (partsL ks sy l1 = partsA (.mk k p n ks) sy left) := hide (by unfold partsA; rw [if_neg (by omega), if_pos hok, hl1])
     rcases hok with ⟨rfl,rfl,rfl,hm⟩ | ⟨rfl,hp0,hp1,rfl,hm⟩ | ⟨rfl,hn,rfl,hm⟩ | ⟨rfl,hn1,hn2,rfl⟩
     · obtain rfl:ks=[]:=List.eq_nil_of_length_eq_zero hm
       simp only[List.length_nil] at Hz3 Hb1 hw3
       clear hm
       have hs:=bs_nil
       generalize bs []=s at *
       clear hszn
       go_enter Tryz.func97,Tryz.ntmps97
       go_wp2
       go_loopw [2,8] (fun lv x W=>lv=.int .i64 l1∧x=.int .i64 0∧Below w.heap.size w W∧W.cell? ⟨w.heap.size,3,none⟩=some (.slice ka 0 kc)) (fun _ _ _=>0)
       case atStart=>exact⟨rfl,rfl,uh Hb1,uh Hz3⟩
       case round =>
         obtain⟨rfl,rfl,hb,z3⟩:=hrel
         go_wp2
         go_ret
         rw[← uh HX]
         exact⟨rfl,hb⟩
     · obtain rfl:ks=[]:=List.eq_nil_of_length_eq_zero hm
       simp only[List.length_nil] at Hz3 Hb1 hw3
       clear hm
       have hs:=bs_nil
       generalize bs []=s at *
       clear hszn
       have hp0':¬ p<0:=by omega
       have hp1':¬ sy≤p:=by omega
       cases hpz:(p == 0)
       · go_enter Tryz.func97,Tryz.ntmps97
         go_wp2
         go_loopw [2,8] (fun lv x W=>lv=.int .i64 l1∧x=.int .i64 0∧Below w.heap.size w W∧W.cell? ⟨w.heap.size,3,none⟩=some (.slice ka 0 kc)) (fun _ _ _=>0)
         case atStart=>exact⟨rfl,rfl,uh Hb1,uh Hz3⟩
         case round =>
           obtain⟨rfl,rfl,hb,z3⟩:=hrel
           go_wp2
           go_ret
           rw[← uh HX]
           exact⟨rfl,hb⟩
       · obtain rfl:p=0:=by simpa using hpz
         go_enter Tryz.func97,Tryz.ntmps97
         go_wp2
         go_loopw [2,8] (fun lv x W=>lv=.int .i64 l1∧x=.int .i64 0∧Below w.heap.size w W∧W.cell? ⟨w.heap.size,3,none⟩=some (.slice ka 0 kc)) (fun _ _ _=>0)
         case atStart=>exact⟨rfl,rfl,uh Hb1,uh Hz3⟩
         case round =>
           obtain⟨rfl,rfl,hb,z3⟩:=hrel
           go_wp2
           go_ret
           rw[← uh HX]
           exact⟨rfl,hb⟩
     · obtain rfl:ks=[]:=List.eq_nil_of_length_eq_zero hm
       simp only[List.length_nil] at Hz3 Hb1 hw3
       clear hm
       have hn':¬ (4096:Int)<(bs n).size:=by rw[hszn];omega
       by_cases hne:n=[]
       · subst hne
         have hs:=bs_nil
         generalize bs []=s at *
         clear hszn hn
         go_enter Tryz.func97,Tryz.ntmps97
         go_wp2
         go_loopw [2,8] (fun lv x W=>lv=.int .i64 l1∧x=.int .i64 0∧Below w.heap.size w W∧W.cell? ⟨w.heap.size,3,none⟩=some (.slice ka 0 kc)) (fun _ _ _=>0)
         case atStart=>exact⟨rfl,rfl,uh Hb1,uh Hz3⟩
         case round =>
           obtain⟨rfl,rfl,hb,z3⟩:=hrel
           go_wp2
           go_ret
           rw[← uh HX]
           exact⟨rfl,hb⟩
       · have hs:=bs_cons hne
         clear hne
         generalize bs n=s at *
         clear hszn hn
         go_enter Tryz.func97,Tryz.ntmps97
         go_wp2
         go_loopw [2,8] (fun lv x W=>lv=.int .i64 l1∧x=.int .i64 0∧Below w.heap.size w W∧W.cell? ⟨w.heap.size,3,none⟩=some (.slice ka 0 kc)) (fun _ _ _=>0)
         case atStart=>exact⟨rfl,rfl,uh Hb1,uh Hz3⟩
         case round =>
           obtain⟨rfl,rfl,hb,z3⟩:=hrel
           go_wp2
           go_ret
           rw[← uh HX]
           exact⟨rfl,hb⟩
     · have hn1':¬ ((bs n).size:Int)<1:=by rw[hszn];omega
       have hn2':¬ (32:Int)<(bs n).size:=by rw[hszn];omega
       have hs:=bs_cons (n:=n) (fun h=>by rw[h] at hn1;simp at hn1)
       generalize bs n=s at *
       clear hszn
       go_enter Tryz.func97,Tryz.ntmps97
       go_wp2
       generalize w.alloc (.cells #[.int .i64 2,.int .i64 0,.string s,.slice ka ks.length kc] 87)=w1 at *
       go_loopw [2,8] (fun lv x W=>∃ (i:Nat) (q:Int),lv=.int .i64 q∧x=.int .i64 i∧i≤ks.length ∧ -1≤q∧q≤l1∧(i:Int)+q≤l1∧partsL (ks.drop i) sy q=partsL ks sy l1∧Below w1.heap.size w1 W) (fun _ x _=>ks.length - (intOf x).toNat)
       case atStart=>exact⟨0,l1,rfl,rfl,Nat.zero_le _,by omega,Int.le_refl _,by omega,rfl,Below.refl _ _⟩
       case round =>
         obtain⟨i,q,rfl,rfl,hi,hq0,hq1,hq2,hrl,hb⟩:=hrel
         have z3:=(hb.cell (p:=⟨w.heap.size,3,none⟩) (by show w.heap.size<w1.heap.size;omega)).trans (uh Hz3)
         have hb2:=(uh Hb1).trans (below_le hb (by omega))
         have Hb:=hide hb;have Hb2:=hide hb2;have Hrl:=hide hrl
         clear hb hb2 hrl
         by_cases hlt:i<ks.length
         · have hlt':(i:Int)<ks.length:=by omega
           by_cases hneg:q<0
           · have hnd:decide (0≤q)=false:=by rw[decide_eq_false_iff_not];omega
             have Hr:Hid (q=partsL ks sy l1):=hide (by rw[← uh Hrl];exact(partsL_neg _ _ _ hneg).symm)
             go_wp2
             go_ret
             rw[← uh HX,← uh Hr]
             exact⟨rfl,uh Hb2⟩
           · have hnd:decide (0≤q)=true:=by rw[decide_eq_true_eq];omega
             obtain⟨u0,u1,u2,u3,e0,e1,e2,e3,hu⟩:=acTs_get ks vs (uh Hts) i hlt
             rcases uh Hkc with h | ⟨b,off,rfl,hbB,hcs⟩
             · rw[h] at hlt;simp at hlt
             have hbW:=(uh Hb2)
             have c0:=(hbW.cell (p:=⟨b,off+i * 4,none⟩) (by show b<w.heap.size;omega)).trans (hcs _ _ e0)
             have c1:=(hbW.cell (p:=⟨b,off+i * 4+1,none⟩) (by show b<w.heap.size;omega)).trans (hcs _ _ e1)
             have c2:=(hbW.cell (p:=⟨b,off+i * 4+2,none⟩) (by show b<w.heap.size;omega)).trans (hcs _ _ e2)
             have c3:=(hbW.cell (p:=⟨b,off+i * 4+3,none⟩) (by show b<w.heap.size;omega)).trans (hcs _ _ e3)
             have hu2:=acAt_kept (below_le hbW hB) _ _ _ _ _ hu
             obtain⟨y0,y1,y2,y3,m3,d3,rfl,rfl,rfl,rfl⟩:=acAt_form hu2
             have hszW:=(uh Hb2).size
             have HC:=hide (uh Hih (ks.getD i ac0) q wr _ _ _ _ (by omega) hu2 (by omega) (by omega))
             have hbd:=parts_bd (ks.getD i ac0) sy q (by omega)
             rw[dropA hlt,partsL,if_neg hneg] at Hrl
             generalize partsA (ks.getD i ac0) sy q=q2 at *
             clear hu hu2 hbW e0 e1 e2 e3 hcs
             go_wp2_with fail
             refine(uh HC).mono ?_
             rintro e3 w3 ⟨rfl,hb3⟩
             have Hb3:=hide ((uh Hb).trans (below_le hb3 (uh Hb).size))
             clear hb3
             go_wp2
             go_roundw
             case rel=>exact⟨i+1,q2,rfl,by go_num,by omega,hbd.1,by omega,by omega,uh Hrl,uh Hb3⟩
             case measure=>simp[intOf];omega
         · obtain rfl:i=ks.length:=by omega
           have Hr:Hid (q=partsL ks sy l1):=hide (by rw[← uh Hrl,List.drop_length];rfl)
           go_wp2
           go_ret
           rw[← uh HX,← uh Hr]
           exact⟨rfl,uh Hb2⟩
   · have HX:Hid (partsA (.mk k p n ks) sy left = -1):=hide (by unfold partsA;rw[if_neg (by omega),if_neg hok])
     generalize partsA (.mk k p n ks) sy left=R at *
     have hsz:=hszn
     have Hok:Hid (∀ m:Nat,(bs n).size=m→¬ okA k p n ks.length sy):=hide (fun _ _=>hok)
     have Hb2:=hide ((Below.refl w.heap.size w).alloc (Nat.le_refl _) (.cells #[.int .i64 k,.int .i64 p,.string (bs n),.slice ka ks.length kc] 87))
     have Hne:Hid (((bs n).toList == [])=true↔n=[]):=hide (by rw[bs_toList];simp)
     have hex:(k=0∧¬ (p=0∧n=[]∧ks.length=0))∨(k=1∧¬ (0≤p∧p<sy∧n=[]∧ks.length=0))∨(k=3∧¬ (n.length≤4096∧p=0∧ks.length=0))∨(k=2∧¬ (1≤n.length∧n.length≤32∧p=0))∨(k≠0∧k≠1∧k≠2∧k≠3):=by
       unfold okA at hok
       by_cases h0:k=0
       · subst h0;left;exact⟨rfl,fun h=>hok (.inl ⟨rfl,h⟩)⟩
       by_cases h1:k=1
       · subst h1;right;left;exact⟨rfl,fun h=>hok (.inr (.inl ⟨rfl,h⟩))⟩
       by_cases h3:k=3
       · subst h3;right;right;left;exact⟨rfl,fun h=>hok (.inr (.inr (.inl ⟨rfl,h⟩)))⟩
       by_cases h2:k=2
       · subst h2;right;right;right;left;exact⟨rfl,fun h=>hok (.inr (.inr (.inr ⟨rfl,h⟩)))⟩
       exact .inr (.inr (.inr (.inr ⟨h0,h1,h2,h3⟩)))
     clear hok Hok Hz3 Hb1 hw3 hl1N Hih Hts Hkc
     have hln:(n.length=0)↔n=[]:=List.length_eq_zero_iff
     rcases hex with ⟨rfl,hx⟩ | ⟨rfl,hx⟩ | ⟨rfl,hx⟩ | ⟨rfl,hx⟩ | ⟨hk0,hk1,hk2,hk3⟩
     · cases hs:((bs n).toList == [])
       · have hne:¬ n=[]:=fun h=>by rw[(uh Hne).2 h] at hs;cases hs
         have Hx:Hid (True):=hide (trivial)
         clear hx Hne hln hne hszn hsz
         generalize ks.length=m at *
         generalize bs n=s at *
         go_enter Tryz.func97,Tryz.ntmps97
         go_wp2
         all_goals first
           | (go_ret;rw[uh HX];exact⟨rfl,(Below.refl _ _).alloc (Nat.le_refl _) _⟩)
           | (exfalso;have h1:=uh Hx;first | omega | (simp at *;omega))
       · have hne:n=[]:=(uh Hne).1 hs
         have Hx:Hid (¬ (p=0∧ks.length=0)):=hide (fun h=>hx ⟨h.1,hne,h.2⟩)
         clear hx Hne hln hne hszn hsz
         generalize ks.length=m at *
         generalize bs n=s at *
         go_enter Tryz.func97,Tryz.ntmps97
         go_wp2
         all_goals first
           | (go_ret;rw[uh HX];exact⟨rfl,(Below.refl _ _).alloc (Nat.le_refl _) _⟩)
           | (exfalso;have h1:=uh Hx;first | omega | (simp at *;omega))
     · cases hs:((bs n).toList == [])
       · have hne:¬ n=[]:=fun h=>by rw[(uh Hne).2 h] at hs;cases hs
         have Hx:Hid (True):=hide (trivial)
         clear hx Hne hln hne hszn hsz
         generalize ks.length=m at *
         generalize bs n=s at *
         go_enter Tryz.func97,Tryz.ntmps97
         go_wp2
         all_goals first
           | (go_ret;rw[uh HX];exact⟨rfl,(Below.refl _ _).alloc (Nat.le_refl _) _⟩)
           | (exfalso;have h1:=uh Hx;first | omega | (simp at *;omega))
       · have hne:n=[]:=(uh Hne).1 hs
         have Hx:Hid (¬ (0≤p∧p<sy∧ks.length=0)):=hide (fun h=>hx ⟨h.1,h.2.1,hne,h.2.2⟩)
         clear hx Hne hln hne hszn hsz
         generalize ks.length=m at *
         generalize bs n=s at *
         go_enter Tryz.func97,Tryz.ntmps97
         go_wp2
         all_goals first
           | (go_ret;rw[uh HX];exact⟨rfl,(Below.refl _ _).alloc (Nat.le_refl _) _⟩)
           | (exfalso;have h1:=uh Hx;first | omega | (simp at *;omega))
     · cases hs:((bs n).toList == [])
       · have hne:¬ n=[]:=fun h=>by rw[(uh Hne).2 h] at hs;cases hs
         have Hx:Hid (¬ ((bs n).size≤4096∧p=0∧ks.length=0)):=hide (hx)
         clear hx Hne hln hne hszn hsz
         generalize ks.length=m at *
         generalize bs n=s at *
         go_enter Tryz.func97,Tryz.ntmps97
         go_wp2
         all_goals first
           | (go_ret;rw[uh HX];exact⟨rfl,(Below.refl _ _).alloc (Nat.le_refl _) _⟩)
           | (exfalso;have h1:=uh Hx;first | omega | (simp at *;omega))
       · have hne:n=[]:=(uh Hne).1 hs
         have Hx:Hid (¬ ((bs n).size≤4096∧p=0∧ks.length=0)):=hide (hx)
         clear hx Hne hln hne hszn hsz
         generalize ks.length=m at *
         generalize bs n=s at *
         go_enter Tryz.func97,Tryz.ntmps97
         go_wp2
         all_goals first
           | (go_ret;rw[uh HX];exact⟨rfl,(Below.refl _ _).alloc (Nat.le_refl _) _⟩)
           | (exfalso;have h1:=uh Hx;first | omega | (simp at *;omega))
     · cases hs:((bs n).toList == [])
       · have hne:¬ n=[]:=fun h=>by rw[(uh Hne).2 h] at hs;cases hs
         have Hx:Hid (¬ (1≤(bs n).size∧(bs n).size≤32∧p=0)):=hide (hx)
         clear hx Hne hln hne hszn hsz
         generalize ks.length=m at *
         generalize bs n=s at *
         go_enter Tryz.func97,Tryz.ntmps97
         go_wp2
         all_goals first
           | (go_ret;rw[uh HX];exact⟨rfl,(Below.refl _ _).alloc (Nat.le_refl _) _⟩)
           | (exfalso;have h1:=uh Hx;first | omega | (simp at *;omega))
       · have hne:n=[]:=(uh Hne).1 hs
         have Hx:Hid (¬ (1≤(bs n).size∧(bs n).size≤32∧p=0)):=hide (hx)
         clear hx Hne hln hne hszn hsz
         generalize ks.length=m at *
         generalize bs n=s at *
         go_enter Tryz.func97,Tryz.ntmps97
         go_wp2
         all_goals first
           | (go_ret;rw[uh HX];exact⟨rfl,(Below.refl _ _).alloc (Nat.le_refl _) _⟩)
           | (exfalso;have h1:=uh Hx;first | omega | (simp at *;omega))
     · have e0:(k == 0)=false:=by rw[beq_eq_false_iff_ne];exact hk0
       have e1:(k == 1)=false:=by rw[beq_eq_false_iff_ne];exact hk1
       have e2:(k == 2)=false:=by rw[beq_eq_false_iff_ne];exact hk2
       have e3:(k == 3)=false:=by rw[beq_eq_false_iff_ne];exact hk3
       clear hk0 hk1 hk2 hk3 Hne hszn hsz hln
       generalize bs n=s at *
       go_enter Tryz.func97,Tryz.ntmps97
       go_wp2
       all_goals (go_ret;rw[uh HX];exact⟨rfl,(Below.refl _ _).alloc (Nat.le_refl _) _⟩)
end Go.Proofs.YtagohbpbgjelaaaGreatDoor

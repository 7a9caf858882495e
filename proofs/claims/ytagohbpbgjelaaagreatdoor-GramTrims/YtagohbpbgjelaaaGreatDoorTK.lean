/- The code's names, kinds (brought over from stage 7). -/
import Derived.Test.YtagohbpbgjelaaaGreatDoorP0
import Derived.Maps.OwnSet
import Derived.Deep.AppendLies
import Derived.Laws.Strings
namespace Go.Proofs.YtagohbpbgjelaaaGreatDoor
open Go.RowKit Go.Maps

abbrev SR7 (w:World) (a:Option Addr) (l:List (List UInt8)):Prop:=zez w.heap.size w a l
set_option maxRecDepth 100000 in
theorem zj3 {w:World} {a:Option Addr} {l:List (List UInt8)} (h:SR7 w a l) {k:Nat} (hk:k<l.length):∃ b off,a=some ⟨b,off,none⟩∧b<w.heap.size∧∀ j,j<l.length→w.cell? ⟨b,off+j,none⟩=some (.string (bs (l.getD j []))):=by
 rcases h with rfl | h
 ·simp at hk
 ·exact h
set_option maxRecDepth 100000 in
theorem zk5 {w w':World} {a:Option Addr} {l:List (List UInt8)} (h:SR7 w a l) {B:Nat} (hB:w.heap.size≤B) (hb:Below B w w'):SR7 w' a l:=by
 rcases h with rfl | ⟨b,off,rfl,hl,hc⟩
 ·exact .inl rfl
 ·exact .inr ⟨b,off,rfl,Nat.lt_of_lt_of_le hl hb.size,fun j hj=>(hb.cell (p:=⟨b,off+j,none⟩) (Nat.lt_of_lt_of_le hl hB)).trans (hc j hj)⟩
set_option maxRecDepth 100000 in
set_option maxHeartbeats 400000 in
theorem zgl (c:Nat) (w:World):Calls Tryz.prog 138 #[.int .u8 (c:Int)] w fun e w'=>e=.returned (.bool (zkN c))∧w=w':=by
 go_enter Tryz.func138,Tryz.ntmps138
 go_wp2
 all_goals (go_ret;refine⟨zbQ ?_,rfl⟩;unfold zkN;rw[Bool.eq_iff_iff];simp;omega)
set_option maxRecDepth 100000 in
set_option maxHeartbeats 400000 in
theorem ziJ (c:Nat) (w:World):Calls Tryz.prog 139 #[.int .u8 (c:Int)] w fun e w'=>e=.returned (.bool (zoq c))∧w=w':=by
 go_enter Tryz.func139,Tryz.ntmps139
 go_wp2
 all_goals (go_ret;refine⟨zbQ ?_,rfl⟩;unfold zoq;rw[Bool.eq_iff_iff];simp;omega)

set_option maxHeartbeats 1000000 in
set_option maxRecDepth 100000 in
theorem zlv (s:ByteArray) (w:World):Calls Tryz.prog 114 #[.string s] w fun e w'=>e=.returned (.bool (zcz s))∧w=w':=by
 by_cases h0:s.size=0
 ·rw[show zcz s=false by unfold zcz;rw[decide_eq_false_iff_not];omega]
  have h0':((s.size:Int) == 0)=true:=by rw[beq_iff_eq];omega
  go_enter Tryz.func114,Tryz.ntmps114
  go_wp2
  go_ret
  exact⟨rfl,rfl⟩
 have h0':((s.size:Int) == 0)=false:=by rw[beq_eq_false_iff_ne];omega
 by_cases h1:64<s.size
 ·rw[show zcz s=false by unfold zcz;rw[decide_eq_false_iff_not];omega]
  have h1':(64:Int)<s.size:=by omega
  go_enter Tryz.func114,Tryz.ntmps114
  go_wp2
  go_ret
  exact⟨rfl,rfl⟩
 have h1':¬ (64:Int)<s.size:=by omega
 have i0:∀ w,(Instr.index 9 (.string s) (.int .i64 0)).run Tryz.prog w=.ok (.int .u8 (bt s 0:Int)) w:=fun w=>zhZ s 0 (by omega) w
 have HD:=zaa (zgl (bt s 0))
 cases hd:zkN (bt s 0)
 · rw [hd] at HD
   have Hn:=zaa (show zcz s=decide (zh9 s s.size) by unfold zcz;rw[decide_eq_decide];exact⟨fun h=>h.2.2.2,fun h=>⟨by omega,by omega,hd,h⟩⟩)
   clear hd h0
   generalize zcz s=R at *
   go_enter Tryz.func114,Tryz.ntmps114
   go_wp2_with fail
   refine(uh HD _).mono ?_
   rintro e w' ⟨rfl,rfl⟩
   go_wp2
   go_loop [19] (fun x=>∃ k:Nat,x=.int .i64 k∧k≤s.size∧zh9 s k) (fun x=>s.size - (intOf x).toNat)
   case atStart=>exact⟨0,rfl,Nat.zero_le _,fun i hi=>absurd hi (Nat.not_lt_zero _)⟩
   case round =>
     obtain⟨k,rfl,hk,hall⟩:=hrel
     have Hall:=zaa hall
     clear hall
     by_cases hlt:k<s.size
     · have hlt':(k:Int)<s.size:=by omega
       have ik:=zhZ s k hlt
       have HL:=zaa (ziJ (bt s k))
       have HD2:=zaa (zgl (bt s k))
       cases hl:zoq (bt s k)
       · rw [hl] at HL
         cases hg:zkN (bt s k)
         · rw[hg] at HD2
           have Hr:Hid (R=false):=zaa (by
             rw[uh Hn];simp only[decide_eq_false_iff_not]
             intro h;rcases h k hlt with h | h
             · rw[hl] at h;cases h
             · rw[hg] at h;cases h)
           clear hl hg
           go_wp2_with fail
           refine(uh HL _).mono ?_
           rintro e w' ⟨rfl,rfl⟩
           go_wp2_with fail
           refine(uh HD2 _).mono ?_
           rintro e w' ⟨rfl,rfl⟩
           go_wp2
           go_ret
           rw[uh Hr]
           exact⟨rfl,rfl⟩
         · rw[hg] at HD2
           have Ha:Hid (zh9 s (k+1)):=zaa (by
             intro i hi
             by_cases e:i=k
             · subst e;exact .inr hg
             · exact uh Hall i (by omega))
           clear hl hg
           go_wp2_with fail
           refine(uh HL _).mono ?_
           rintro e w' ⟨rfl,rfl⟩
           go_wp2_with fail
           refine(uh HD2 _).mono ?_
           rintro e w' ⟨rfl,rfl⟩
           go_wp2
           go_round
           case rel=>exact⟨k+1,by go_num,by omega,uh Ha⟩
           case measure=>simp[intOf];omega
       · rw[hl] at HL
         have Ha:Hid (zh9 s (k+1)):=zaa (by
           intro i hi
           by_cases e:i=k
           · subst e;exact .inl hl
           · exact uh Hall i (by omega))
         clear hl
         go_wp2_with fail
         refine(uh HL _).mono ?_
         rintro e w' ⟨rfl,rfl⟩
         go_wp2
         go_round
         case rel=>exact⟨k+1,by go_num,by omega,uh Ha⟩
         case measure=>simp[intOf];omega
     · obtain rfl:k=s.size:=by omega
       have Hr:Hid (R=true):=zaa (by rw[uh Hn];simp only[decide_eq_true_eq];exact uh Hall)
       go_wp2
       go_ret
       rw[uh Hr]
       exact⟨rfl,rfl⟩
 · rw[hd] at HD
   rw[show zcz s=false by simp[zcz,hd]]
   clear hd h0
   go_enter Tryz.func114,Tryz.ntmps114
   go_wp2_with fail
   refine(uh HD _).mono ?_
   rintro e w' ⟨rfl,rfl⟩
   go_wp2
   go_ret
   exact⟨rfl,rfl⟩
set_option maxRecDepth 100000 in
theorem zq5:Keyed Tryz.prog 9:=string_keyed Tryz.underlying9
set_option maxRecDepth 100000 in
theorem zrV (s:List UInt8) (hs:s.length≤maxLen):keyOf Tryz.prog 9 (.string (bs s))=some (.string s):=WideMaps.keyOf_string_mk Tryz.underlying9 (s:=bs s) hs
set_option maxRecDepth 100000 in
theorem zqm (w:World):(zeroValue 3).run Tryz.prog w=.ok (.int .i64 0) w:=by kernel_rfl
set_option maxRecDepth 100000 in
theorem zlp (n:Int) (w:World):(Instr.makeMap 162 (some (.int .i64 n))).run Tryz.prog w=.ok (.map (some w.heap.size)) (w.alloc (.map #[] 0)):=by
 simp[Instr.makeMap,run_underlying Tryz.underlying162,asInt,asIntOf,Result.andThen]

def zkS (w:World) (b:Nat) (ns:List (List UInt8)):Prop :=
 ∃ D:DataW Unit,w.ownsMap Tryz.prog 9 (plainElem Tryz.prog 3) b ns.length D∧(∀ s,Maps.has D (.string s)=decide (s ∈ ns)) ∧
  (∀ s,s ∈ ns→∃ j:Nat,ns[j]? = some s∧D.atKey (.string s) (.lit (.int .i64 0))=.lit (.int .i64 (j:Int))) ∧
  (∀ s,s ∉ ns→D.atKey (.string s) (.lit (.int .i64 0))=.lit (.int .i64 0))∧Maps.size D≤ns.length∧(Maps.size D=ns.length↔ns.Nodup)
set_option maxRecDepth 100000 in
theorem zo1 (w:World):zkS (w.alloc (.map #[] 0)) w.heap.size []:=by
 refine⟨.map [],World.ownsMap_made w _ _ _,fun s=>(by simp[Maps.has]),fun s hs=>(absurd hs (by simp)),fun s _=>(by simp[DataW.atKey]),(by simp[Maps.size]),(by simp[Maps.size])⟩
set_option maxRecDepth 100000 in
theorem zqQ {D:DataW Unit} {w w':World} {b:Nat} {ns:List (List UInt8)} {s:List UInt8} (hm:w.ownsMap Tryz.prog 9 (plainElem Tryz.prog 3) b ns.length D) (h1:∀ s,Maps.has D (.string s)=decide (s ∈ ns))
 (h2:∀ s,s ∈ ns→∃ j:Nat,ns[j]? = some s∧D.atKey (.string s) (.lit (.int .i64 0))=.lit (.int .i64 (j:Int))) (h3:∀ s,s ∉ ns→D.atKey (.string s) (.lit (.int .i64 0))=.lit (.int .i64 0)) (h4:Maps.size D≤ns.length) (h5:Maps.size D=ns.length↔ns.Nodup)
 (hm':w'.ownsMap (H:=Unit) Tryz.prog 9 (plainElem Tryz.prog 3) b (ns.length+1) (D.put (.string s) (.lit (.int .i64 (ns.length:Int))))):zkS w' b (ns ++ [s]):=by
 have hkl:WideAt.IsKeyLit (.string s):=trivial
 have hsz:=size_put (k:=.string s) (hm.tidy zq5) (.lit (.int .i64 (ns.length:Int)))
 rw[h1 s] at hsz
 refine⟨_,by simpa using hm',fun x=>?_,fun x hx=>?_,fun x hx=>?_,?_,?_⟩
 ·by_cases hx:x=s
  ·subst hx;rw[has_put_same hm.isMap hkl];simp
  ·have hne:(Lit.string x)≠.string s:=by simpa using hx
   rw[has_put_other hne,h1 x];simp[hx]
 ·by_cases hx':x=s
  ·subst hx'
   exact⟨ns.length,by simp,atKey_put_same hm.isMap hkl _ _⟩
  ·have hne:(Lit.string x)≠.string s:=by simpa using hx'
   have hin:x ∈ ns:=by
    rcases List.mem_append.1 hx with h | h
    ·exact h
    ·simp at h;exact absurd h hx'
   obtain⟨j,hj,e⟩:=h2 x hin
   have hjl:j<ns.length:=(List.getElem?_eq_some_iff.1 hj).1
   exact⟨j,by rw[List.getElem?_append_left hjl];exact hj,by rw[atKey_put_other hne];exact e⟩
 ·have hx':x≠s:=fun e=>hx (by simp[e])
  have hne:(Lit.string x)≠.string s:=by simpa using hx'
  rw[atKey_put_other hne]
  exact h3 x (fun h=>hx (List.mem_append_left _ h))
 ·rw[hsz,List.length_append];simp only[List.length_singleton];split <;> omega
 · rw [hsz, List.length_append, List.nodup_append]
   simp only[List.length_singleton]
   by_cases hin:s ∈ ns
   · rw[decide_eq_true hin,if_pos rfl]
     constructor
     · intro h;omega
     · intro h;exact absurd rfl (h.2.2 s hin s (by simp))
   · rw[decide_eq_false hin,if_neg (by simp)]
     constructor
     · intro h
       refine⟨h5.1 (by omega),by simp,fun a ha b hb e=>?_⟩
       simp at hb;subst hb;subst e;exact hin ha
     · intro h
       have:=h5.2 h.1;omega
set_option maxHeartbeats 1000000 in
set_option maxRecDepth 100000 in
theorem zjw (a:Option Addr) (cap:Nat) (ns:List (List UInt8)) (hl:ns.length≤1024) (hs:∀ j,j<ns.length→(ns.getD j []).length≤64) (w:World) (hrow:SR7 w a ns) :
 Calls Tryz.prog 115 #[.slice a ns.length cap] w fun e w'=>e=.returned (.map (some w.heap.size))∧zkS w' w.heap.size ns∧Below w.heap.size w w':=by
 have q:=zlp (ns.length:Int) w
 have Hrow:=zaa hrow;have Hs:=zaa hs
 clear hrow hs
 go_enter Tryz.func115,Tryz.ntmps115
 go_wp2
 go_loopw [11] (fun x wr=>∃ k:Nat,x=.int .i64 k∧k≤ns.length∧Below w.heap.size w wr∧zkS wr w.heap.size (ns.take k)) (fun x _=>ns.length - (intOf x).toNat)
 case atStart=>exact⟨0,rfl,Nat.zero_le _,(Below.refl _ _).alloc (Nat.le_refl _) _,by simpa using zo1 w⟩
 case round =>
  obtain⟨k,rfl,hk,hbel,hnum⟩:=hrel
  have hsz:=hbel.size
  have Hbel:=zaa hbel;have Hnum:=zaa hnum
  clear hbel hnum
  by_cases hlt:k<ns.length
  ·have hlt':(k:Int)<ns.length:=by omega
   obtain⟨b,off,rfl,hb,hc⟩:=zj3 (zk5 (uh Hrow) (Nat.le_refl _) (uh Hbel)) hlt
   have ck:=hc k hlt
   have hsk:=uh Hs k hlt
   have Ht:=zaa (zbf ns k [] hlt)
   clear hc
   generalize ns.getD k []=s at *
   obtain⟨D,hm,h1,h2,h3,h4,h5⟩:=uh Hnum
   have htl:(ns.take k).length=k:=by rw[List.length_take];omega
   have Hm:=zaa hm
   have Hput:=zaa (fun w'=>zqQ (w':=w') (s:=s) hm h1 h2 h3 h4 h5)
   clear hm h1 h2 h3 h4 h5 Hnum
   rw[htl] at Hput Hm
   have Hk:=zaa (zrV s (by unfold maxLen;omega))
   go_wp2_with (at_mapUpdate;refine wpList_mapUpdate_own _ rfl _ _ _ 162 rfl 9 3 zq5 Tryz.underlying162 _ _ k D rfl (uh Hm) ?zd1 _ _ (.string s) rfl rfl (uh Hk) (.lit (.int .i64 (k:Int))) [] ?zd2 ?_)
   case zd1=>unfold maxLen;omega
   case zd2=>exact plainElem_int Tryz.underlying3 (WalkArith.wf_i64 (by omega))
   intro W3 hm3 hg3
   have Hn3:=zaa (uh Hput W3 hm3)
   have Hb3:=zaa ((uh Hbel).grown hg3 hsz (fun x hx=>by simp at hx;omega))
   clear hm3 hg3
   go_wp2
   go_roundw
   case rel=>exact⟨k+1,by go_num,by omega,uh Hb3,by rw[uh Ht];exact uh Hn3⟩
   case measure=>simp[intOf];omega
  ·obtain rfl:k=ns.length:=by omega
   rw[List.take_length] at Hnum
   go_wp2
   go_ret
   exact⟨rfl,uh Hnum,uh Hbel⟩
def zb9 (ns:List (List UInt8)):Int:=if zca ns then 0 else 70
set_option maxHeartbeats 2000000 in
set_option maxRecDepth 100000 in
theorem znn (a:Option Addr) (cap:Nat) (ns:List (List UInt8)) (w:World) (hrow:SR7 w a ns) :
 Calls Tryz.prog 72 #[.slice a ns.length cap] w fun e w'=>e=.returned (.int .i64 (zb9 ns))∧Below w.heap.size w w':=by
 by_cases h0:ns.length<2
 ·rw[show zb9 ns=70 by unfold zb9;rw[zcj (by omega)];rfl]
  have h0':(ns.length:Int)<2:=by omega
  go_enter Tryz.func72,Tryz.ntmps72
  go_wp2
  go_ret
  exact⟨rfl,Below.refl _ _⟩
 have h0':¬ (ns.length:Int)<2:=by omega
 by_cases h1:1024<ns.length
 ·rw[show zb9 ns=70 by unfold zb9;rw[zcj (by omega)];rfl]
  have h1':(1024:Int)<ns.length:=by omega
  go_enter Tryz.func72,Tryz.ntmps72
  go_wp2
  go_ret
  exact⟨rfl,Below.refl _ _⟩
 have h1':¬ (1024:Int)<ns.length:=by omega
 obtain⟨b,off,rfl,hb,hc⟩:=zj3 hrow (k:=0) (by omega)
 have c0:=hc 0 (by omega)
 have c1:=hc 1 (by omega)
 have i0:(0:Int)<ns.length:=by omega
 have i1:(1:Int)<ns.length:=by omega
 by_cases h2:ns.getD 0 []=endS
 · rw [h2] at c0
   by_cases h3:ns.getD 1 []=errS
   · rw [h3] at c1
     have c0':w.cell? ⟨b,off,none⟩=some (.string ⟨#[101,110,100]⟩):=c0
     have c1':w.cell? ⟨b,off+1,none⟩=some (.string ⟨#[101,114,114,111,114]⟩):=c1
     have Hyes:Hid (zdw ns ns.length∧ns.Nodup→zb9 ns=0):=zaa fun h=>by unfold zb9;rw[show zca ns=true from decide_eq_true ⟨by omega,by omega,h2,h3,h⟩];rfl
     have Hno:Hid (¬ (zdw ns ns.length∧ns.Nodup)→zb9 ns=70):=zaa fun h=>by unfold zb9;rw[zcj (fun k=>h k.2.2.2.2)];rfl
     have Hrow:=zaa hrow;have Hc:=zaa hc
     generalize zb9 ns=R at *
     clear hrow hc c0 c1 h2 h3
     go_enter Tryz.func72,Tryz.ntmps72
     go_wp2
     go_loopw [27] (fun x wr=>∃ k:Nat,x=.int .i64 k∧k≤ns.length∧zdw ns k∧wr=w) (fun x _=>ns.length - (intOf x).toNat)
     case atStart=>exact⟨0,rfl,Nat.zero_le _,fun i hi=>absurd hi (Nat.not_lt_zero _),rfl⟩
     case round =>
       obtain⟨k,rfl,hk,hgood,hw⟩:=hrel
       subst hw
       have Hg:=zaa hgood
       clear hgood
       by_cases hlt:k<ns.length
       · have hlt':(k:Int)<ns.length:=by omega
         have ck:=uh Hc k hlt
         have HN:=zaa (zlv (bs (ns.getD k [])))
         cases hn:zcz (bs (ns.getD k []))
         · rw[hn] at HN
           have Hr:Hid (R=70):=zaa (uh Hno (by
             intro h;have:=h.1 k hlt;rw[hn] at this;cases this))
           clear hn c0' c1'
           generalize bs (ns.getD k [])=s at *
           go_wp2_with fail
           refine(uh HN _).mono ?_
           rintro e w' ⟨rfl,rfl⟩
           go_wp2
           go_ret
           rw[uh Hr]
           exact⟨rfl,Below.refl _ _⟩
         · rw[hn] at HN
           have Hg':Hid (zdw ns (k+1)):=zaa (by
             intro i hi
             by_cases e:i=k
             · subst e;exact hn
             · exact uh Hg i (by omega))
           clear hn c0' c1'
           generalize bs (ns.getD k [])=s at *
           go_wp2_with fail
           refine(uh HN _).mono ?_
           rintro e w' ⟨rfl,rfl⟩
           go_wp2
           go_roundw
           case rel=>exact⟨k+1,by go_num,by omega,uh Hg',by first | rfl | trivial⟩
           case measure=>simp[intOf];omega
       · obtain rfl:k=ns.length:=by omega
         have HM:=zaa (zjw (some ⟨b,off,none⟩) cap ns (by omega) (fun j hj=>zkz (uh Hg j hj)) wr (uh Hrow))
         clear c0' c1'
         go_wp2_with fail
         refine(uh HM).mono ?_
         rintro e w' ⟨rfl,hnum,hbel⟩
         obtain⟨D,hm,-,-,-,h4,h5⟩:=hnum
         have hlen:=fun ty=>hm.len Tryz.underlying162 ty
         have Hb:=zaa hbel
         clear hm hbel HM
         by_cases hnd:ns.Nodup
         · have Hr:Hid (R=0):=zaa (uh Hyes ⟨uh Hg,hnd⟩)
           have e5:=h5.2 hnd
           rw[e5] at hlen
           have hn5:¬ (ns.length:Int)<ns.length:=by omega
           clear h5 hnd e5 h4
           go_wp2
           go_ret
           rw[uh Hr]
           exact⟨rfl,uh Hb⟩
         · have Hr:Hid (R=70):=zaa (uh Hno fun h=>hnd h.2)
           have e5:Maps.size D<ns.length:=by
             have:Maps.size D≠ns.length:=fun e=>hnd (h5.1 e)
             omega
           generalize Maps.size D=z at *
           have hn5:(z:Int)<ns.length:=by omega
           clear h5 hnd h4
           go_wp2
           go_ret
           rw[uh Hr]
           exact⟨rfl,uh Hb⟩
   · rw[show zb9 ns=70 by unfold zb9;rw[zcj (fun h=>h3 h.2.2.2.1)];rfl]
     have c0':w.cell? ⟨b,off,none⟩=some (.string ⟨#[101,110,100]⟩):=c0
     have hne:((bs (ns.getD 1 [])).toList == [101,114,114,111,114])=false:=by rw[zbG,beq_eq_false_iff_ne];exact h3
     clear hc c0 hrow h2 h3
     generalize bs (ns.getD 1 [])=s at *
     go_enter Tryz.func72,Tryz.ntmps72
     go_wp2
     go_ret
     exact⟨rfl,Below.refl _ _⟩
 · rw[show zb9 ns=70 by unfold zb9;rw[zcj (fun h=>h2 h.2.2.1)];rfl]
   have hne:((bs (ns.getD 0 [])).toList == [101,110,100])=false:=by rw[zbG,beq_eq_false_iff_ne];exact h2
   clear hc hrow h2 c1
   rw[Nat.add_zero] at c0
   generalize bs (ns.getD 0 [])=s at *
   go_enter Tryz.func72,Tryz.ntmps72
   go_wp2
   go_ret
   exact⟨rfl,Below.refl _ _⟩
end Go.Proofs.YtagohbpbgjelaaaGreatDoor

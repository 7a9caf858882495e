import Derived.Test.YtieciibnajeibaaGreatDoorP0
import Derived.Maps.OwnSet
import Derived.Deep.AppendLies
set_option maxHeartbeats 8000000
set_option maxRecDepth 100000
namespace Go.Proofs.YtieciibnajeibaaGreatDoor
open Go.RowKit Go.Maps
abbrev SR7(w:World)(a:Option Addr)(l:List (List UInt8)):Prop:=zxt w.heap.size w a l
variable{a:Option Addr}{l:List (List UInt8)}{w w':World}
theorem zl8(h:SR7 w a l){k:Nat}(hk:k<l.length):∃ b off,a=some ⟨b,off,none⟩/\b<w.heap.size/\∀ j,j<l.length->w.cell? ⟨b,off+j,none⟩=some (.string (bs (l.getD j []))):=by
 rcases h with rfl | h
 ·simp at hk
 ·exact h
theorem znv(h:SR7 w a l){B:Nat}(hB:w.heap.size<=B)(hb:Below B w w'):SR7 w' a l:=by
 rcases h with rfl | ⟨b,off,rfl,hl,hc⟩
 ·exact .inl rfl
 ·exact .inr ⟨b,off,rfl,zsJ hl hb.size,λj hj=>(hb.cell (p:=⟨b,off+j,none⟩) (zsJ hl hB)).trans (hc j hj)⟩
theorem zg6(c:Nat)(w:World):Calls Tryz.prog 218 #[.int .u8 (c:Int)] w λe w'=>e=.returned (.bool (zxF c))/\w=w':=by
 go_enter Tryz.func218,Tryz.ntmps218;go_wp2
 all_goals (go_ret;refine⟨zbo ?_,rfl⟩;unfold zxF;rw[Bool.eq_iff_iff];simp;omega)
theorem zkh(c:Nat)(w:World):Calls Tryz.prog 219 #[.int .u8 (c:Int)] w λe w'=>e=.returned (.bool (letB c))/\w=w':=by
 go_enter Tryz.func219,Tryz.ntmps219;go_wp2
 all_goals (go_ret;refine⟨zbo ?_,rfl⟩;unfold letB;rw[Bool.eq_iff_iff];simp;omega)
theorem znX(s:ByteArray)(w:World):Calls Tryz.prog 186 #[.string s] w λe w'=>e=.returned (.bool (zfM s))/\w=w':=by
 by_cases h0:s.size=0
 ·rw[show zfM s=false by unfold zfM;rw[decide_eq_false_iff_not];omega];have h0':((s.size:Int) == 0)=true:=by rw[beq_iff_eq];omega
  go_enter Tryz.func186,Tryz.ntmps186;go_wp2;go_ret;exact⟨rfl,rfl⟩
 have h0':((s.size:Int) == 0)=false:=by rw[beq_eq_false_iff_ne];omega
 by_cases h1:64<s.size
 ·rw[show zfM s=false by unfold zfM;rw[decide_eq_false_iff_not];omega];have h1':(64:Int)<s.size:=by omega
  go_enter Tryz.func186,Tryz.ntmps186;go_wp2;go_ret;exact⟨rfl,rfl⟩
 have h1':¬ (64:Int)<s.size:=by omega
 have i0:∀ w,(Instr.index 9 (.string s) (.int .i64 0)).run Tryz.prog w=.ok (.int .u8 (bt s 0:Int)) w:=λw=>zmL s 0 (by omega) w;have HD:=zaa (zg6 (bt s 0))
 cases hd:zxF (bt s 0)
 · rw [hd] at HD;have Hn:=zaa (show zfM s=decide (zlV s s.size) by unfold zfM;rw[decide_eq_decide];exact⟨λh=>h.2.2.2,λh=>⟨by omega,by omega,hd,h⟩⟩);clear hd h0;generalize zfM s=R at *;go_enter Tryz.func186,Tryz.ntmps186;go_wp2_with fail;refine(uh HD _).mono ?_;rintro e w' ⟨rfl,rfl⟩;go_wp2
   go_loop [19] (λx=>∃ k:Nat,x=.int .i64 k/\k<=s.size/\zlV s k) (λx=>s.size - (intOf x).toNat)
   case atStart=>exact⟨0,rfl,zsK _,λi hi=>absurd hi (Nat.not_lt_zero _)⟩
   case round =>
     obtain⟨k,rfl,hk,hall⟩:=hrel;have Hall:=zaa hall;clear hall;by_cases hlt:k<s.size
     · have hlt':(k:Int)<s.size:=by omega
       have ik:=zmL s k hlt;have HL:=zaa (zkh (bt s k));have HD2:=zaa (zg6 (bt s k))
       cases hl:letB (bt s k)
       · rw [hl] at HL
         cases hg:zxF (bt s k)
         · rw[hg] at HD2
           have Hr:Hid (R=false):=zaa (by
             rw[uh Hn];simp only[decide_eq_false_iff_not];intro h;rcases h k hlt with h | h
             · rw[hl] at h;cases h
             · rw[hg] at h;cases h)
           clear hl hg;go_wp2_with fail;refine(uh HL _).mono ?_;rintro e w' ⟨rfl,rfl⟩;go_wp2_with fail;refine(uh HD2 _).mono ?_;rintro e w' ⟨rfl,rfl⟩;go_wp2;go_ret;rw[uh Hr];exact⟨rfl,rfl⟩
         · rw[hg] at HD2
           have Ha:Hid (zlV s (k+1)):=zaa (by
             intro i hi;by_cases e:i=k
             · subst e;exact .inr hg
             · exact uh Hall i (by omega))
           clear hl hg;go_wp2_with fail;refine(uh HL _).mono ?_;rintro e w' ⟨rfl,rfl⟩;go_wp2_with fail;refine(uh HD2 _).mono ?_;rintro e w' ⟨rfl,rfl⟩;go_wp2;go_round
           case rel=>exact⟨k+1,by go_num,by omega,uh Ha⟩
           case measure=>simp[intOf];omega
       · rw[hl] at HL
         have Ha:Hid (zlV s (k+1)):=zaa (by
           intro i hi;by_cases e:i=k
           · subst e;exact .inl hl
           · exact uh Hall i (by omega))
         clear hl;go_wp2_with fail;refine(uh HL _).mono ?_;rintro e w' ⟨rfl,rfl⟩;go_wp2;go_round
         case rel=>exact⟨k+1,by go_num,by omega,uh Ha⟩
         case measure=>simp[intOf];omega
     · obtain rfl:k=s.size:=by omega
       have Hr:Hid (R=true):=zaa (by rw[uh Hn];simp only[decide_eq_true_eq];exact uh Hall);go_wp2;go_ret;rw[uh Hr];exact⟨rfl,rfl⟩
 · rw[hd] at HD;rw[show zfM s=false by simp[zfM,hd]];clear hd h0;go_enter Tryz.func186,Tryz.ntmps186;go_wp2_with fail;refine(uh HD _).mono ?_;rintro e w' ⟨rfl,rfl⟩;go_wp2;go_ret;exact⟨rfl,rfl⟩
theorem law9:Keyed Tryz.prog 9:=string_keyed Tryz.underlying9
theorem keyS(s:List UInt8)(hs:s.length<=maxLen):keyOf Tryz.prog 9 (.string (bs s))=some (.string s):=WideMaps.keyOf_string_mk Tryz.underlying9 (s:=bs s) hs
theorem zero3(w:World):(zeroValue 3).run Tryz.prog w=.ok (.int .i64 0) w:=by kernel_rfl
theorem znR(n:Int)(w:World):(Instr.makeMap 89 (some (.int .i64 n))).run Tryz.prog w=.ok (.map (some w.heap.size)) (w.alloc (.map #[] 0)):=by
 simp[Instr.makeMap,run_underlying Tryz.underlying89,asInt,asIntOf,Result.andThen]
def znh(w:World)(b:Nat)(ns:List (List UInt8)):Prop :=
 ∃ D:DataW Unit,w.ownsMap Tryz.prog 9 (plainElem Tryz.prog 3) b ns.length D/\(∀ s,Maps.has D (.string s)=decide (s ∈ ns)) /\
  (∀ s,s ∈ ns->∃ j:Nat,ns[j]? = some s/\D.atKey (.string s) (.lit (.int .i64 0))=.lit (.int .i64 (j:Int))) /\
  (∀ s,s ∉ ns->D.atKey (.string s) (.lit (.int .i64 0))=.lit (.int .i64 0))/\Maps.size D<=ns.length/\(Maps.size D=ns.length↔ns.Nodup)
theorem zsR(w:World):znh (w.alloc (.map #[] 0)) w.heap.size []:=by
 refine⟨.map [],World.ownsMap_made w _ _ _,λs=>(by simp[Maps.has]),λs hs=>(absurd hs (by simp)),λs _=>(by simp[DataW.atKey]),(by simp[Maps.size]),(by simp[Maps.size])⟩
theorem zvL{D:DataW Unit}{b:Nat}{ns:List (List UInt8)}{s:List UInt8}(hm:w.ownsMap Tryz.prog 9 (plainElem Tryz.prog 3) b ns.length D)(h1:∀ s,Maps.has D (.string s)=decide (s ∈ ns))
 (h2:∀ s,s ∈ ns->∃ j:Nat,ns[j]? = some s/\D.atKey (.string s) (.lit (.int .i64 0))=.lit (.int .i64 (j:Int))) (h3:∀ s,s ∉ ns->D.atKey (.string s) (.lit (.int .i64 0))=.lit (.int .i64 0)) (h4:Maps.size D<=ns.length) (h5:Maps.size D=ns.length↔ns.Nodup)
 (hm':w'.ownsMap (H:=Unit) Tryz.prog 9 (plainElem Tryz.prog 3) b (ns.length+1) (D.put (.string s) (.lit (.int .i64 (ns.length:Int))))):znh w' b (ns ++ [s]):=by
 have hkl:WideAt.IsKeyLit (.string s):=trivial;have hsz:=size_put (k:=.string s) (hm.tidy law9) (.lit (.int .i64 (ns.length:Int)));rw[h1 s] at hsz;refine⟨_,by simpa using hm',λx=>?_,λx hx=>?_,λx hx=>?_,?_,?_⟩
 ·by_cases hx:x=s
  ·subst hx;rw[has_put_same hm.isMap hkl];simp
  ·have hne:(Lit.string x)≠.string s:=by simpa using hx
   rw[has_put_other hne,h1 x];simp[hx]
 ·by_cases hx':x=s
  ·subst hx';exact⟨ns.length,by simp,atKey_put_same hm.isMap hkl _ _⟩
  ·have hne:(Lit.string x)≠.string s:=by simpa using hx'
   have hin:x ∈ ns:=by
    rcases List.mem_append.1 hx with h | h
    ·exact h
    ·simp at h;exact absurd h hx'
   obtain⟨j,hj,e⟩:=h2 x hin;have hjl:j<ns.length:=(zsP.1 hj).1;exact⟨j,by rw[List.getElem?_append_left hjl];exact hj,by rw[atKey_put_other hne];exact e⟩
 ·have hx':x≠s:=λe=>hx (by simp[e]);have hne:(Lit.string x)≠.string s:=by simpa using hx'
  rw[atKey_put_other hne];exact h3 x (λh=>hx (List.mem_append_left _ h))
 ·rw[hsz,zsI];simp only[List.length_singleton];split <;> omega
 · rw [hsz, zsI, List.nodup_append];simp only[List.length_singleton];by_cases hin:s ∈ ns
   · rw[decide_eq_true hin,if_pos rfl];constructor
     · intro h;omega
     · intro h;exact absurd rfl (h.2.2 s hin s (by simp))
   · rw[decide_eq_false hin,if_neg (by simp)];constructor
     · intro h;refine⟨h5.1 (by omega),by simp,λa ha b hb e=>?_⟩;simp at hb;subst hb;subst e;exact hin ha
     · intro h;have:=h5.2 h.1;omega
theorem zli(a:Option Addr)(cap:Nat)(ns:List (List UInt8))(hl:ns.length<=1024)(hs:∀ j,j<ns.length->(ns.getD j []).length<=64)(w:World)(hrow:SR7 w a ns) :
 Calls Tryz.prog 187 #[.slice a ns.length cap] w λe w'=>e=.returned (.map (some w.heap.size))/\znh w' w.heap.size ns/\Below w.heap.size w w':=by
 have q:=znR (ns.length:Int) w;have Hrow:=zaa hrow;have Hs:=zaa hs;clear hrow hs;go_enter Tryz.func187,Tryz.ntmps187;go_wp2
 go_loopw [11] (λx wr=>∃ k:Nat,x=.int .i64 k/\k<=ns.length/\Below w.heap.size w wr/\znh wr w.heap.size (ns.take k)) (λx _=>ns.length - (intOf x).toNat)
 case atStart=>exact⟨0,rfl,zsK _,(zsY _ _).alloc (zsG _) _,by simpa using zsR w⟩
 case round =>
  obtain⟨k,rfl,hk,hbel,hnum⟩:=hrel;have hsz:=hbel.size;have Hbel:=zaa hbel;have Hnum:=zaa hnum;clear hbel hnum;by_cases hlt:k<ns.length
  ·have hlt':(k:Int)<ns.length:=by omega
   obtain⟨b,off,rfl,hb,hc⟩:=zl8 (znv (uh Hrow) (zsG _) (uh Hbel)) hlt;have ck:=hc k hlt;have hsk:=uh Hs k hlt;have Ht:=zaa (zcB ns k [] hlt);clear hc;generalize ns.getD k []=s at *;obtain⟨D,hm,h1,h2,h3,h4,h5⟩:=uh Hnum;have htl:(ns.take k).length=k:=by rw[zsV];omega
   have Hm:=zaa hm;have Hput:=zaa (λw'=>zvL (w':=w') (s:=s) hm h1 h2 h3 h4 h5);clear hm h1 h2 h3 h4 h5 Hnum;rw[htl] at Hput Hm;have Hk:=zaa (keyS s (by unfold maxLen;omega));go_wp2_with (at_mapUpdate;refine wpList_mapUpdate_own _ rfl _ _ _ 89 rfl 9 3 law9 Tryz.underlying89 _ _ k D rfl (uh Hm) ?zd1 _ _ (.string s) rfl rfl (uh Hk) (.lit (.int .i64 (k:Int))) [] ?zd2 ?_)
   case zd1=>unfold maxLen;omega
   case zd2=>exact plainElem_int Tryz.underlying3 (WalkArith.wf_i64 (by omega))
   intro W3 hm3 hg3;have Hn3:=zaa (uh Hput W3 hm3);have Hb3:=zaa ((uh Hbel).grown hg3 hsz (λx hx=>by simp at hx;omega));clear hm3 hg3;go_wp2;go_roundw
   case rel=>exact⟨k+1,by go_num,by omega,uh Hb3,by rw[uh Ht];exact uh Hn3⟩
   case measure=>simp[intOf];omega
  ·obtain rfl:k=ns.length:=by omega
   rw[zsN] at Hnum;go_wp2;go_ret;exact⟨rfl,uh Hnum,uh Hbel⟩
def zb0(ns:List (List UInt8)):Int:=if zg4 ns then 0 else 70
theorem zqa(a:Option Addr)(cap:Nat)(ns:List (List UInt8))(w:World)(hrow:SR7 w a ns) :
 Calls Tryz.prog 143 #[.slice a ns.length cap] w λe w'=>e=.returned (.int .i64 (zb0 ns))/\Below w.heap.size w w':=by
 by_cases h0:ns.length<2
 ·rw[show zb0 ns=70 by unfold zb0;rw[zfh (by omega)];rfl];have h0':(ns.length:Int)<2:=by omega
  go_enter Tryz.func143,Tryz.ntmps143;go_wp2;go_ret;exact⟨rfl,zsY _ _⟩
 have h0':¬ (ns.length:Int)<2:=by omega
 by_cases h1:1024<ns.length
 ·rw[show zb0 ns=70 by unfold zb0;rw[zfh (by omega)];rfl];have h1':(1024:Int)<ns.length:=by omega
  go_enter Tryz.func143,Tryz.ntmps143;go_wp2;go_ret;exact⟨rfl,zsY _ _⟩
 have h1':¬ (1024:Int)<ns.length:=by omega
 obtain⟨b,off,rfl,hb,hc⟩:=zl8 hrow (k:=0) (by omega);have c0:=hc 0 (by omega);have c1:=hc 1 (by omega);have i0:(0:Int)<ns.length:=by omega
 have i1:(1:Int)<ns.length:=by omega
 by_cases h2:ns.getD 0 []=endS
 · rw [h2] at c0;by_cases h3:ns.getD 1 []=errS
   · rw [h3] at c1;have c0':w.cell? ⟨b,off,none⟩=some (.string ⟨#[101,110,100]⟩):=c0;have c1':w.cell? ⟨b,off+1,none⟩=some (.string ⟨#[101,114,114,111,114]⟩):=c1;have Hyes:Hid (zf3 ns ns.length/\ns.Nodup->zb0 ns=0):=zaa λh=>by unfold zb0;rw[show zg4 ns=true from decide_eq_true ⟨by omega,by omega,h2,h3,h⟩];rfl
     have Hno:Hid (¬ (zf3 ns ns.length/\ns.Nodup)->zb0 ns=70):=zaa λh=>by unfold zb0;rw[zfh (λk=>h k.2.2.2.2)];rfl
     have Hrow:=zaa hrow;have Hc:=zaa hc;generalize zb0 ns=R at *;clear hrow hc c0 c1 h2 h3;go_enter Tryz.func143,Tryz.ntmps143;go_wp2
     go_loopw [27] (λx wr=>∃ k:Nat,x=.int .i64 k/\k<=ns.length/\zf3 ns k/\wr=w) (λx _=>ns.length - (intOf x).toNat)
     case atStart=>exact⟨0,rfl,zsK _,λi hi=>absurd hi (Nat.not_lt_zero _),rfl⟩
     case round =>
       obtain⟨k,rfl,hk,hgood,hw⟩:=hrel;subst hw;have Hg:=zaa hgood;clear hgood;by_cases hlt:k<ns.length
       · have hlt':(k:Int)<ns.length:=by omega
         have ck:=uh Hc k hlt;have HN:=zaa (znX (bs (ns.getD k [])))
         cases hn:zfM (bs (ns.getD k []))
         · rw[hn] at HN
           have Hr:Hid (R=70):=zaa (uh Hno (by
             intro h;have:=h.1 k hlt;rw[hn] at this;cases this))
           clear hn c0' c1';generalize bs (ns.getD k [])=s at *;go_wp2_with fail;refine(uh HN _).mono ?_;rintro e w' ⟨rfl,rfl⟩;go_wp2;go_ret;rw[uh Hr];exact⟨rfl,zsY _ _⟩
         · rw[hn] at HN
           have Hg':Hid (zf3 ns (k+1)):=zaa (by
             intro i hi;by_cases e:i=k
             · subst e;exact hn
             · exact uh Hg i (by omega))
           clear hn c0' c1';generalize bs (ns.getD k [])=s at *;go_wp2_with fail;refine(uh HN _).mono ?_;rintro e w' ⟨rfl,rfl⟩;go_wp2;go_roundw
           case rel=>exact⟨k+1,by go_num,by omega,uh Hg',by first | rfl | trivial⟩
           case measure=>simp[intOf];omega
       · obtain rfl:k=ns.length:=by omega
         have HM:=zaa (zli (some ⟨b,off,none⟩) cap ns (by omega) (λj hj=>zs8 (uh Hg j hj)) wr (uh Hrow));clear c0' c1';go_wp2_with fail;refine(uh HM).mono ?_;rintro e w' ⟨rfl,hnum,hbel⟩;obtain⟨D,hm,-,-,-,h4,h5⟩:=hnum;have hlen:=λty=>hm.len Tryz.underlying89 ty;have Hb:=zaa hbel;clear hm hbel HM;by_cases hnd:ns.Nodup
         · have Hr:Hid (R=0):=zaa (uh Hyes ⟨uh Hg,hnd⟩);have e5:=h5.2 hnd;rw[e5] at hlen;have hn5:¬ (ns.length:Int)<ns.length:=by omega
           clear h5 hnd e5 h4;go_wp2;go_ret;rw[uh Hr];exact⟨rfl,uh Hb⟩
         · have Hr:Hid (R=70):=zaa (uh Hno λh=>hnd h.2);have e5:Maps.size D<ns.length:=by
             have:Maps.size D≠ns.length:=λe=>hnd (h5.1 e);omega
           generalize Maps.size D=z at *;have hn5:(z:Int)<ns.length:=by omega
           clear h5 hnd h4;go_wp2;go_ret;rw[uh Hr];exact⟨rfl,uh Hb⟩
   · rw[show zb0 ns=70 by unfold zb0;rw[zfh (λh=>h3 h.2.2.2.1)];rfl];have c0':w.cell? ⟨b,off,none⟩=some (.string ⟨#[101,110,100]⟩):=c0;have hne:((bs (ns.getD 1 [])).toList == [101,114,114,111,114])=false:=by rw[zfs,beq_eq_false_iff_ne];exact h3
     clear hc c0 hrow h2 h3;generalize bs (ns.getD 1 [])=s at *;go_enter Tryz.func143,Tryz.ntmps143;go_wp2;go_ret;exact⟨rfl,zsY _ _⟩
 · rw[show zb0 ns=70 by unfold zb0;rw[zfh (λh=>h2 h.2.2.1)];rfl];have hne:((bs (ns.getD 0 [])).toList == [101,110,100])=false:=by rw[zfs,beq_eq_false_iff_ne];exact h2
   clear hc hrow h2 c1;rw[Nat.add_zero] at c0;generalize bs (ns.getD 0 [])=s at *;go_enter Tryz.func143,Tryz.ntmps143;go_wp2;go_ret;exact⟨rfl,zsY _ _⟩
end Go.Proofs.YtieciibnajeibaaGreatDoor

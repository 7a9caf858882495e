/- The code's alone: the rules of a row that can stand alone. -/
import Derived.Test.YtagohbpbgjelaaaGreatDoorGY
import Derived.Test.YtagohbpbgjelaaaGreatDoorA5
import Derived.Test.YtagohbpbgjelaaaGreatDoorRG
import Derived.Test.YtagohbpbgjelaaaGreatDoorP0
import Derived.Test.YtagohbpbgjelaaaGreatDoorGX
import Derived.Test.YtagohbpbgjelaaaGreatDoorSP
import Derived.Test.YtagohbpbgjelaaaGreatDoorGJ
import Derived.Test.YtagohbpbgjelaaaGreatDoorU2
import Derived.Test.YtagohbpbgjelaaaGreatDoorWkT3
namespace Go.Proofs.YtagohbpbgjelaaaGreatDoor
open Go.RowKit

noncomputable def zfi (G:Gm) (x:Int):Bool:=!(decide ((G.nk:Int)≤x) && zaO G (x - G.nk).toNat)
noncomputable def zbj (G:Gm) (row:List Int):List Int:=row.filter (zfi G)
theorem zlC (G:Gm) (row:List Int) (k:Nat) (hk:k<row.length):zbj G (row.take (k+1))=zbj G (row.take k) ++ if zfi G (row.getD k 0) then[row.getD k 0] else[]:=by
 unfold zbj
 rw[zbf row k 0 hk,List.filter_append]
 congr 1
 generalize row.getD k 0=x
 by_cases h:zfi G x=true
 ·rw[if_pos h];simp[h]
 ·rw[if_neg h];simp[h]
theorem zgo (G:Gm) (row:List Int):(zbj G row).length≤row.length:=List.length_filter_le _ _
noncomputable def zcx (G:Gm) (row:List Int):List Int:=if (zbj G row).length=0 then zar G.nk row else if (zbj G row).length=1 then zar G.nk (zbj G row) else[]
theorem zcf {M:Nat} {w w':World} {G:Gm} {bb nb sb sc gb:Nat} {A:Nat→Nat} (h:BgAt M w G bb nb sb sc gb A) (hb:Below w.heap.size w w'):BgAt M w' G bb nb sb sc gb A:=by
 obtain⟨OO,rep,C,h1,h2⟩:=h.st
 exact⟨(hb.block _ (Array.getElem?_eq_some_iff.1 h.bx).1).trans h.bx,h.nu.of_block (hb.block _ h.nu.lt),⟨OO,rep,C,zbb h1 hb,h2⟩,h.b1,h.b2⟩
set_option maxHeartbeats 2000000 in
set_option maxRecDepth 100000 in
theorem zoc (G:Gm) (hG:GOk G) (ka:Option Addr) (kc gb bb nb:Nat) (sv:Value) (ro:Option Addr) (rowc:Nat) (row:List Int) (hl:row.length≤64) (hx:zii (G.nk+G.nr) row) (w:World) (hgb:gb<w.heap.size) (hc0:w.cell? ⟨gb,0,none⟩=some (.slice ka G.kinds.length kc)) (hbx:w.heap[bb]? = some (.cells #[.pointer (some ⟨gb,0,none⟩),.slice (some ⟨nb,0,none⟩) G.rules.length G.rules.length,sv] 64 (0,0))) (hnu:w.rowIs nb 4 G.rules.length (fun r=>.bool (zaO G r))) (hrow:NRow w.heap.size w ro row) :
 Calls Tryz.prog 88 #[.pointer (some ⟨bb,0,none⟩),.slice ro row.length rowc] w fun e w'=>∃ v,e=.returned v∧w'.ownsRow w.heap.size 3 1 v (zcx G row).length (zal (zcx G row))∧Below w.heap.size w w':=by
 obtain⟨i3,hi3,hz30,hz31,hz32⟩:=zao zc0
 have hk3:=hG.k3;have hr2:=hG.r2
 unfold Gm.nk at hk3
 unfold Gm.nr at hr2
 have hnot:=zaG
 have Hc0:=zaa hc0;have Hrow:=zaa hrow;have Hx:=zaa hx;have Hbx:=zaa hbx;have Hnu:=zaa hnu
 clear hc0 hrow hx hbx hnu
 go_enter Tryz.func88,Tryz.ntmps88
 go_wp2
 go_loopw [5,12] (fun u x W=>∃ k:Nat,x=.int .i64 k∧k≤row.length∧W.ownsRow w.heap.size 3 1 u (zbj G (row.take k)).length (zal (zbj G (row.take k)))∧Below w.heap.size w W) (fun _ x _=>row.length - (intOf x).toNat)
 case atStart=>exact⟨0,rfl,Nat.zero_le _,World.ownsRow_nil _ _ _ _,Below.refl _ _⟩
 case round =>
  obtain⟨k,rfl,hk,hown,hb⟩:=hrel
  obtain⟨ua,uc,rfl⟩:=zad hown
  have hsz:=hb.size
  have hle:=zgo G (row.take k)
  rw[List.length_take] at hle
  have hbx:=(hb.block _ (Array.getElem?_eq_some_iff.1 (uh Hbx)).1).trans (uh Hbx)
  have hnuw:=(uh Hnu).of_block (hb.block _ (uh Hnu).lt)
  have b0:wr.cell? ⟨bb,0,none⟩=some (.pointer (some ⟨gb,0,none⟩)):=by unfold World.cell?;rw[hbx];rfl
  have b1:wr.cell? ⟨bb,1,none⟩=some (.slice (some ⟨nb,0,none⟩) G.rules.length G.rules.length):=by unfold World.cell?;rw[hbx];rfl
  have c0:=(hb.cell (p:=⟨gb,0,none⟩) hgb).trans (uh Hc0)
  have Hown:=zaa hown;have Hb:=zaa hb
  clear hbx
  by_cases hlt:k<row.length
  ·have hlt':(k:Int)<row.length:=by omega
   obtain⟨b,off,rfl,hbl,hc⟩:=za3 (zau hb (uh Hrow)) hlt
   have hxk:=uh Hx _ (za5 hlt)
   unfold Gm.nk Gm.nr at hxk
   have Hs:=zaa (zlC G row k hlt)
   have HR:=zaa (zeF gb (row.getD k 0) G.kinds.length ka kc hk3 (by omega) wr c0)
   have hfb:zfi G (row.getD k 0)=!(decide ((G.kinds.length:Int)≤row.getD k 0) && zaO G (row.getD k 0 - (G.kinds.length:Nat)).toNat):=rfl
   clear hown hb
   generalize row.getD k 0=x at *
   generalize hFm:zbj G (row.take k)=acc at *
   have App:∀ (hf:zfi G x=true),Hid (zbj G (row.take (k+1))=acc ++ [x]):=fun hf=>zaa (by have:=uh Hs;rw[if_pos hf] at this;exact this)
   by_cases hr:(G.kinds.length:Int)≤x
   ·rw[if_pos hr,decide_eq_true hr] at HR
    rw[decide_eq_true hr,Bool.true_and] at hfb
    obtain⟨y,hy⟩:∃ y:Nat,x - G.kinds.length=(y:Int):=⟨(x - G.kinds.length).toNat,by omega⟩
    rw[hy] at HR hfb
    rw[Int.toNat_natCast] at hfb
    have hyn:y<G.rules.length:=by omega
    have hyn':(y:Int)<G.rules.length:=by omega
    have ny:=hnuw.cell hyn
    cases hnu:zaO G y with
    | true =>
      rw[hnu] at hfb ny
      have Hs2:Hid (zbj G (row.take (k+1))=acc):=zaa (by have:=uh Hs;rw[hfb] at this;simpa using this)
      clear App Hs hfb hnuw
      go_wp2_with fail
      refine(uh HR).mono ?_
      rintro e w9 ⟨rfl,rfl⟩
      go_wp2
      go_roundw
      case rel=>exact⟨k+1,by go_num,by omega,by rw[uh Hs2];exact uh Hown,uh Hb⟩
      case measure=>simp[intOf];omega
    | false =>
      rw[hnu] at hfb ny
      have Hs2:=App hfb
      clear App Hs hfb hnuw
      go_wp2_with fail
      refine(uh HR).mono ?_
      rintro e w9 ⟨rfl,rfl⟩
      go_wp2_with (at_builtin;refine wpList_append_own _ rfl _ _ 27 rfl w.heap.size 3 i3 (.int .i64 0) 1 8 Tryz.underlying27 hi3 hz30 hz31 hz32 rfl (by decide) _ _ _ rfl ((uh Hown).alloc _) ⟨wr.heap.size,0,none⟩ 1 1 [.int .i64 x] rfl rfl (ziC _ _ _) ?zc2 ?zc3 ?zc4 ?zc5 ?_)
      case zc2=>intro u hu;simp at hu;rcases hu with rfl;rfl
      case zc3=>unfold maxLen;omega
      case zc4=>omega
      case zc5=>simp;omega
      intro v' W3 hown' hgrow _
      have Hb4:=zaa (((uh Hb).alloc hsz _).grown hgrow (by simp;omega) (fun j hj=>((uh Hown).lt j hj).1))
      have Ho4:=zaa (show W3.ownsRow w.heap.size 3 1 v' (zbj G (row.take (k+1))).length (zal (zbj G (row.take (k+1)))) by rw[uh Hs2,← zaN,List.length_append];exact hown')
      clear hown' hgrow
      go_wp2
      go_roundw
      case rel=>exact⟨k+1,by go_num,by omega,uh Ho4,uh Hb4⟩
      case measure=>simp[intOf];omega
   ·rw[if_neg hr,decide_eq_false hr] at HR
    rw[decide_eq_false hr] at hfb
    have Hs2:=App hfb
    clear App Hs hfb hnuw
    go_wp2_with fail
    refine(uh HR).mono ?_
    rintro e w9 ⟨rfl,rfl⟩
    go_wp2_with (at_builtin;refine wpList_append_own _ rfl _ _ 27 rfl w.heap.size 3 i3 (.int .i64 0) 1 8 Tryz.underlying27 hi3 hz30 hz31 hz32 rfl (by decide) _ _ _ rfl ((uh Hown).alloc _) ⟨wr.heap.size,0,none⟩ 1 1 [.int .i64 x] rfl rfl (ziC _ _ _) ?zc2 ?zc3 ?zc4 ?zc5 ?_)
    case zc2=>intro u hu;simp at hu;rcases hu with rfl;rfl
    case zc3=>unfold maxLen;omega
    case zc4=>omega
    case zc5=>simp;omega
    intro v' W3 hown' hgrow _
    have Hb4:=zaa (((uh Hb).alloc hsz _).grown hgrow (by simp;omega) (fun j hj=>((uh Hown).lt j hj).1))
    have Ho4:=zaa (show W3.ownsRow w.heap.size 3 1 v' (zbj G (row.take (k+1))).length (zal (zbj G (row.take (k+1)))) by rw[uh Hs2,← zaN,List.length_append];exact hown')
    clear hown' hgrow
    go_wp2
    go_roundw
    case rel=>exact⟨k+1,by go_num,by omega,uh Ho4,uh Hb4⟩
    case measure=>simp[intOf];omega
  ·obtain rfl:k=row.length:=by omega
   rw[List.take_length] at Hown hown ⊢
   have hsr:∀ x,x ∈ row→0≤x∧x≤281474976710656:=fun x hx=>by have:=uh Hx x hx;unfold Gm.nk Gm.nr at this;omega
   have HA:=zaa (zcI gb G.kinds.length ka kc hk3 ro rowc row (by omega) hsr wr c0 (by omega) (zch hsz (zau hb (uh Hrow))))
   have hfn:NRow wr.heap.size wr ua (zbj G row):=by
    obtain⟨_,_,he,hn⟩:=zb2 hown
    cases he
    exact hn
   have hfl:=zgo G row
   have HF:=zaa (zcI gb G.kinds.length ka kc hk3 ua uc (zbj G row) (by omega) (fun x hx=>hsr x (List.mem_filter.1 hx).1) wr c0 (by omega) hfn)
   have Hal:Hid (zcx G row=if (zbj G row).length=0 then zar G.kinds.length row else if (zbj G row).length=1 then zar G.kinds.length (zbj G row) else[]):=zaa rfl
   clear hown hb hfn hnuw
   by_cases h0:(zbj G row).length=0
   ·rw[if_pos h0] at Hal
    have h0':((zbj G row).length:Int)=0:=by omega
    rw[h0] at HF ⊢
    go_wp2_with fail
    refine(uh HA).mono ?_
    rintro e w9 ⟨v9,rfl,ho9,hb9⟩
    have Ho9:=zaa (show w9.ownsRow w.heap.size 3 1 v9 (zcx G row).length (zal (zcx G row)) by rw[uh Hal];exact zaK ho9 hsz)
    have Hb9:=zaa ((uh Hb).trans (zab hb9 hsz))
    clear ho9 hb9
    go_wp2
    go_ret
    exact⟨v9,rfl,uh Ho9,uh Hb9⟩
   ·rw[if_neg h0] at Hal
    by_cases h1:(zbj G row).length=1
    ·rw[if_pos h1] at Hal
     rw[h1] at HF ⊢
     go_wp2_with fail
     refine(uh HF).mono ?_
     rintro e w9 ⟨v9,rfl,ho9,hb9⟩
     have Ho9:=zaa (show w9.ownsRow w.heap.size 3 1 v9 (zcx G row).length (zal (zcx G row)) by rw[uh Hal];exact zaK ho9 hsz)
     have Hb9:=zaa ((uh Hb).trans (zab hb9 hsz))
     clear ho9 hb9
     go_wp2
     go_ret
     exact⟨v9,rfl,uh Ho9,uh Hb9⟩
    ·rw[if_neg h1] at Hal
     have h0':¬ ((zbj G row).length:Int)=0:=by omega
     have h1':¬ ((zbj G row).length:Int)=1:=by omega
     generalize (zbj G row).length=fl at *
     go_wp2
     go_ret
     exact⟨_,rfl,by rw[uh Hal];exact World.ownsRow_nil _ _ _ _,uh Hb⟩
end Go.Proofs.YtagohbpbgjelaaaGreatDoor

namespace Go.Proofs.YtagohbpbgjelaaaGreatDoor
open Go.RowKit

def kcN (G:Gm) (q:Nat):Int:=((G.prods.getD q pd0).right.length:Int) - (rlN G q).length
def lfQ (G:Gm) (q:Nat):Nat:=(G.prods.getD q pd0).left.toNat
theorem zjn (nk:Nat) (x:Int) (l:List Int):zar nk (x::l)=(if (nk:Int)≤x then[x - nk] else[]) ++ zar nk l:=rfl
theorem zgh {nk:Nat} {f:Nat→Int}:∀ (row:List Int) (acc:Int),0≤acc→acc≤65537→(∀ x,x ∈ row→(nk:Int)≤x→0≤f (x - nk).toNat) →
 zgM nk f row acc=min (acc+((row.length:Int) - (zar nk row).length)+zfV f ((zar nk row).map Int.toNat)) 65537
 | [],acc,h0,h1,_=>by unfold zgM;simp[zar,zfV];omega
 | x::xs,acc,h0,h1,h=>by
   have hr:=fun y hy=>h y (List.mem_cons_of_mem _ hy)
   have hs:=(zfU f ((zar nk xs).map Int.toNat)).1
   have hl:=zaR (nk:=nk) xs
   unfold zgM
   rw[zjn]
   by_cases hk:(nk:Int)≤x
   ·have hf:=h x (by simp) hk
    rw[if_pos hk,if_pos hk,if_neg (by omega),zgh xs _ (by omega) (by omega) hr]
    simp only[List.singleton_append,List.map_cons,List.length_cons,zfV]
    rw[if_pos hf]
    push_cast
    omega
   ·rw[if_neg hk,if_neg hk,zgh xs _ (by omega) (by omega) hr]
    simp only[List.nil_append,List.length_cons]
    push_cast
    omega
theorem zqb {G:Gm} {f:Nat→Int} {q:Nat} (h:∀ x,x ∈ rlN G q→0≤f x):zgM G.nk f (G.prods.getD q pd0).right 0=min (kcN G q+zfV f (rlN G q)) 65537:=by
 rw[zgh _ 0 (Int.le_refl _) (by decide) (fun x hx hk=>h _ (rlN_mem.2 ⟨x,hx,hk,rfl⟩))]
 unfold kcN rlN
 rw[List.length_map]
 congr 1
 omega
theorem zpj {G:Gm} (f:Nat→Int) (q:Nat) (hq:q<G.prods.length) (h:∀ x,x ∈ rlN G q→0≤f x∧f x≤65537∧Lng G x (f x)):Lng G (lfQ G q) (min (kcN G q+zfV f (rlN G q)) 65537):=by
 have e:=zqb (G:=G) (f:=f) (q:=q) (fun x hx=>(h x hx).1)
 rw[← e]
 have hk:0≤kcN G q:=by unfold kcN rlN;rw[List.length_map];have:=zaR (nk:=G.nk) (G.prods.getD q pd0).right;omega
 have hs:=(zfU f (rlN G q)).1
 exact .mk _ (zag hq) f (fun x hx hkx=>(h _ (rlN_mem.2 ⟨x,hx,hkx,rfl⟩)).2.2) (by rw[e];omega)
theorem znp (G:Gm) (q:Nat):0≤kcN G q:=by unfold kcN rlN;rw[List.length_map];have:=zaR (nk:=G.nk) (G.prods.getD q pd0).right;omega
abbrev LsI (G:Gm) (L mi su:Nat→Int) (H:Nat→Option Int) (rem:List Nat):Prop:=KInv (lfQ G) (rlN G) (kcN G) G.prods.length (Lng G) 65537 L mi su H rem
theorem ls_end {G:Gm} {L mi su:Nat→Int} {H:Nat→Option Int} (h:LsI G L mi su H []) (hH:∀ r,H r=none):zfm G L:=by
 obtain⟨h1,h2⟩:=zpp h hH
 refine zpk h1 (fun i hi=>?_)
 rintro⟨h3,h4⟩
 have hall:∀ x,x ∈ rlN G i→0≤L x:=fun x hx=>by
  obtain⟨y,hy,hk,rfl⟩:=rlN_mem.1 hx
  exact zhU _ 0 (Int.le_refl _) h3 y hy hk
 have h5:=h2 i hi hall
 rw[zqb hall] at h4
 unfold lfQ at h5
 omega
theorem ls_pop {G:Gm} {L mi su:Nat→Int} {H:Nat→Option Int} {r:Nat} {v:Int} (h:LsI G L mi su H []) (hr:H r=some v) (hmin:∀ s u,H s=some u→v≤u) :
 L r<0∧0≤v∧v≤65537∧LsI G (upZ L r v) (dcM (zbm G r) mi) (fun q=>su q+v * ((zbm G r).count q:Nat)) (upH H r none) (dcR (zbm G r) mi) :=
 zpo (uses:=zbm G) (fun q r hq=>zdV hq) (fun q r hq=>zdz hq) (fun q _=>znp G q) (by decide) (fun f q hq hx=>zpj f q hq hx) h hr hmin
end Go.Proofs.YtagohbpbgjelaaaGreatDoor

namespace Go.Proofs.YtagohbpbgjelaaaGreatDoor
open Go.RowKit

theorem zjz (w:World):Calls Tryz.prog 106 #[] w fun e w'=>e=.returned (.pointer (some ⟨w.heap.size,0,none⟩))∧w'=w.alloc (.cells #[.slice none 0 0,.map none] 191):=by
 go_enter Tryz.func106,Tryz.ntmps106
 go_wp2
 go_ret
 exact⟨rfl,rfl⟩
structure LsAt (B:Nat) (w V:World) (n np bb mb sb tb:Nat) (L su:Nat→Int) (ml:List Int) (O:Nat→Prop) (H:Nat→Option Int):Prop where
 ls:V.rowIs bb 3 n (fun r=>.int .i64 (L r))
 ms:V.ownsRow B 3 1 (.slice (some ⟨mb,0,none⟩) np np) ml.length (zal ml)
 mln:ml.length=np
 sm:V.rowIs sb 3 np (fun q=>.int .i64 (su q))
 td:zot V tb O H
 o1:¬ O bb
 o2:¬ O mb
 o3:¬ O sb
 n1:bb≠mb
 n2:bb≠sb
 n3:mb≠sb
 ob:∀ k,O k→B≤k
 b1:B≤bb
 b2:B≤mb
 b3:B≤sb
 bl:Below B w V
section
variable {B:Nat} {w V V':World} {n np bb mb sb tb:Nat} {L su:Nat→Int} {ml:List Int} {O:Nat→Prop} {H:Nat→Option Int}
theorem zcC (h:LsAt B w V n np bb mb sb tb L su ml O H) (hB:B≤V.heap.size) (hb:Below V.heap.size V V'):LsAt B w V' n np bb mb sb tb L su ml O H :=
 ⟨h.ls.of_block (hb.block _ h.ls.lt),zd9 h.ms hb,h.mln,h.sm.of_block (hb.block _ h.sm.lt),zpf h.td hb,h.o1,h.o2,h.o3,h.n1,h.n2,h.n3,h.ob,h.b1,h.b2,h.b3,h.bl.trans (zab hb hB)⟩
theorem zgf (h:LsAt B w V n np bb mb sb tb L su ml O H) (hB:B≤V.heap.size) {O':Nat→Prop} {H':Nat→Option Int} (hf:Fr O V V') (ht:zot V' tb O' H') (hO:∀ k,O' k→O k∨V.heap.size≤k):LsAt B w V' n np bb mb sb tb L su ml O' H':=by
 have h1:=h.ls.lt
 have h2:=h.sm.lt
 have h3:=(h.ms.lt mb rfl).2
 refine⟨h.ls.of_block (hf.2.1 _ h1 h.o1),zcc h.ms (fun k hk=>?_),h.mln,h.sm.of_block (hf.2.1 _ h2 h.o3),ht,fun ho=>(hO _ ho).elim h.o1 (by omega),fun ho=>(hO _ ho).elim h.o2 (by omega),fun ho=>(hO _ ho).elim h.o3 (by omega),h.n1,h.n2,h.n3,fun k hk=>(hO k hk).elim (h.ob k) (by omega),h.b1,h.b2,h.b3,h.bl.trans (zah hf hB h.ob)⟩
 have e:mb=k:=by simpa [Value.ownBlock] using hk
 subst e
 exact hf.2.1 _ h3 h.o2
theorem zkC {b o:Nat} {v:Value} (h:zot V tb O H) (hn:¬ O b):zot (V.setCell ⟨b,o,none⟩ v) tb O H:=by
 obtain⟨ts,h1,h2,h3⟩:=h
 refine⟨ts,Wk.lst_off h1 (O':=(· = b)) (Wk.off_set (O:=(· = b)) (p:=⟨b,o,none⟩) (Wk.off_refl _ _) (.inl rfl) _) (fun k hk e=>hn (by have e:k=b:=e;rw[← e];exact hk)),h2,h3⟩
theorem zqX (h:LsAt B w V n np bb mb sb tb L su ml O H) (r:Nat) (v:Int):LsAt B w (V.setCell ⟨bb,r,none⟩ (.int .i64 v)) n np bb mb sb tb (upZ L r v) su ml O H :=
 ⟨(h.ls.set r _).congr (fun q _=>by unfold upZ;split <;> rfl),zbN h.ms (by simp[Value.ownBlock];exact fun e=>h.n1 e.symm),h.mln,h.sm.of_block (zaj V (fun e=>h.n2 e.symm)),zkC h.td h.o1,h.o1,h.o2,h.o3,h.n1,h.n2,h.n3,h.ob,h.b1,h.b2,h.b3,h.bl.setCell h.b1 _⟩
theorem znf (h:LsAt B w V n np bb mb sb tb L su ml O H) (q:Nat) (v:Int):LsAt B w (V.setCell ⟨sb,q,none⟩ (.int .i64 v)) n np bb mb sb tb L (upZ su q v) ml O H :=
 ⟨h.ls.of_block (zaj V h.n2),zbN h.ms (by simp[Value.ownBlock];exact h.n3),h.mln,(h.sm.set q _).congr (fun q _=>by unfold upZ;split <;> rfl),zkC h.td h.o3,h.o1,h.o2,h.o3,h.n1,h.n2,h.n3,h.ob,h.b1,h.b2,h.b3,h.bl.setCell h.b3 _⟩
end
structure RcM (w W:World) (np mb sb:Nat) (ml:List Int):Prop where
 ms:W.ownsRow w.heap.size 3 1 (.slice (some ⟨mb,0,none⟩) np np) ml.length (zal ml)
 sm:W.rowIs sb 3 np (fun _=>.int .i64 0)
 ne:mb≠sb
 lo:w.heap.size≤sb
 bl:Below w.heap.size w W
theorem rcm_a {w W3:World} {np mb:Nat} {ml:List Int} (ho:W3.ownsRow w.heap.size 3 1 (.slice (some ⟨mb,0,none⟩) np np) ml.length (zal ml)) (hb:Below w.heap.size w W3):RcM w (W3.alloc (.cells (madeCells #[.int .i64 0] np) 3)) np mb W3.heap.size ml:=by
 have hs:=hb.size
 have h1:=(ho.lt mb rfl).2
 exact⟨ho.alloc _,World.rowIs_made _ _ _ _,by omega,by omega,hb.alloc hs _⟩
theorem rcm_b {w W3:World} {np mb:Nat} {ml:List Int} (ho:W3.ownsRow (w.alloc (.cells (madeCells #[.int .i64 0] np) 3)).heap.size 3 1 (.slice (some ⟨mb,0,none⟩) np np) ml.length (zal ml)) (hb:Below (w.alloc (.cells (madeCells #[.int .i64 0] np) 3)).heap.size (w.alloc (.cells (madeCells #[.int .i64 0] np) 3)) W3):RcM w W3 np mb w.heap.size ml:=by
 have hs:(w.alloc (.cells (madeCells #[.int .i64 0] np) 3)).heap.size=w.heap.size+1:=by simp
 have h1:=(ho.lt mb rfl).1
 have hr:=World.rowIs_made w (.int .i64 0) np 3
 exact⟨zaK ho (by omega),hr.of_block (hb.block _ (by omega)),by omega,Nat.le_refl _,((Below.refl _ _).alloc (Nat.le_refl _) _).trans (zab hb (by omega))⟩
def zoo (G:Gm) (k:Nat):List Nat:=((List.range G.prods.length).drop k).filter fun q=>decide (rlN G q=[])
theorem zmA (G:Gm) (k:Nat) (hk:k<G.prods.length):zoo G k=if rlN G k=[] then k::zoo G (k+1) else zoo G (k+1):=by
 unfold zoo
 rw[List.drop_eq_getElem_cons (by simpa using hk),List.getElem_range,List.filter_cons]
 simp
theorem zoK (G:Gm):zoo G G.prods.length=[]:=by
 unfold zoo
 rw[List.drop_eq_nil_of_le (by simp)]
 rfl
theorem zpg {G:Gm} {k:Nat} {H:Nat→Option Int} (hk:k<G.prods.length) (h:LsI G (fun _ => -1) (fun q=>(rlN G q).length) (kcN G) H (zoo G k)) (hkc:kcN G k≤65537):LsI G (fun _ => -1) (fun q=>(rlN G q).length) (kcN G) (if (rlN G k).length=0 then zfb H (lfQ G k) (kcN G k) else H) (zoo G (k+1)):=by
 rw[zmA G k hk] at h
 by_cases e:rlN G k=[]
 ·rw[if_pos e] at h
  rw[if_pos (by rw[e];rfl)]
  have:=ziG h (by decide)
  rw[show min (kcN G k) 65537=kcN G k by omega] at this
  exact this
 ·rw[if_neg e] at h
  rw[if_neg (fun h0=>e (List.eq_nil_of_length_eq_zero h0))]
  exact h
theorem zmn {L:Nat→Int}:∀ (l:List Nat),(∀ x,L x≤65537)→zfV L l≤65537 * l.length
 | [],_=>by simp[zfV]
 | x::l,h=>by
   have:=zmn l h
   have:=h x
   unfold zfV
   rw[List.length_cons]
   push_cast
   split <;> omega
theorem zjo (G:Gm) (q:Nat):(rlN G q).length≤(G.prods.getD q pd0).right.length:=by unfold rlN;rw[List.length_map];exact zaR _
theorem ls_su {G:Gm} (hG:GOk G) {L mi su:Nat→Int} {H:Nat→Option Int} {rem:List Nat} (h:LsI G L mi su H rem) {q:Nat} (hq:q<G.prods.length):0≤su q∧su q≤10000000:=by
 have h1:=h.suE q hq
 have h2:=hG.pr _ (zag hq)
 have h3:=zjo G q
 have h4:=zmn (L:=L) (rlN G q) (fun x=>by rcases h.lg x with h | h <;> omega)
 have h5:=(zfU L (rlN G q)).1
 have h6:=znp G q
 have h7:kcN G q≤64:=by unfold kcN;omega
 have h8:(65537:Int) * (rlN G q).length≤65537 * 64:=by omega
 omega
theorem zmN {w:World} {B B' e s n:Nat} {v:Value} {xs:List Value} (h:w.ownsRow B e s v n xs) (hB:∀ k,v.ownBlock=some k→B'≤k):w.ownsRow B' e s v n xs:=by
 refine⟨h.1,?_⟩
 rcases h.2 with h0 | ⟨g,cap,cur,hv,h1,rest⟩
 ·exact .inl h0
 ·exact .inr ⟨g,cap,cur,hv,hB g (by rw[hv];rfl),rest⟩
structure RyAt (S:Nat) (V:World) (u:Value) (l:List Nat) (O:Nat→Prop):Prop where
 own:V.ownsRow S 3 1 u (zai l).length (zal (zai l))
 no:∀ k,u.ownBlock=some k→¬ O k
theorem zph {B M:Nat} {w V W:World} {n np bb mb sb tb:Nat} {L su:Nat→Int} {ml:List Int} {O:Nat→Prop} {H:Nat→Option Int} {P:List Nat} {u:Value} (h:LsAt B w V n np bb mb sb tb L su ml O H) (hB:B≤V.heap.size) (hr:RdI M V (.slice (some ⟨mb,0,none⟩) np np) ml P u W) :
 ∃ ml',atZ ml'=dcM P (atZ ml)∧LsAt B w W n np bb mb sb tb L su ml' O H∧RyAt V.heap.size W u (dcR P (atZ ml)) O:=by
 obtain⟨hrd,⟨ml',hl',ha',hms'⟩,hf⟩:=hr
 have hne:∀ k,(Value.slice (some ⟨mb,0,none⟩) np np).ownBlock=some k→k=mb:=fun k hk=>by
  have e:mb=k:=by simpa [Value.ownBlock] using hk
  exact e.symm
 have hb1:=h.ls.lt
 have hb2:=h.sm.lt
 refine⟨ml',ha',⟨h.ls.of_block (hf.2.1 _ hb1 (fun e=>h.n1 (hne _ e))),zmN hms' (fun k hk=>by rw[hne k hk];exact h.b2),hl'.trans h.mln,h.sm.of_block (hf.2.1 _ hb2 (fun e=>h.n3 (hne _ e).symm)),?_,h.o1,h.o2,h.o3,h.n1,h.n2,h.n3,h.ob,h.b1,h.b2,h.b3,h.bl.trans (zah hf hB (fun k hk=>by rw[hne k hk];exact h.b2))⟩,⟨hrd,fun k hk ho=>?_⟩⟩
 ·obtain⟨ts,h1,h2,h3⟩:=h.td
  exact⟨ts,Wk.lst_off h1 (ziy hf) (fun k hk e=>h.o2 (by rw[← hne k e];exact hk)),h2,h3⟩
 ·obtain⟨ts,h1,h2,h3⟩:=h.td
  have e1:=h1.lt k ho
  have e2:=(hrd.lt k hk).1
  omega
theorem zmu {S:Nat} {V V':World} {u:Value} {l:List Nat} {O O':Nat→Prop} (h:RyAt S V u l O) (hf:Fr O V V') (hO:∀ k,O' k→O k∨V.heap.size≤k):RyAt S V' u l O' :=
 ⟨zcc h.own (fun k hk=>hf.2.1 _ (h.own.lt k hk).2 (h.no k hk)),fun k hk ho=>(hO k ho).elim (h.no k hk) (by have:=(h.own.lt k hk).2;omega)⟩
theorem zk8 {S:Nat} {V V':World} {u:Value} {l:List Nat} {O:Nat→Prop} (h:RyAt S V u l O) (hb:Below V.heap.size V V'):RyAt S V' u l O :=
 ⟨zcc h.own (fun k hk=>hb.block _ (h.own.lt k hk).2),h.no⟩
theorem ls_mi {G:Gm} (hG:GOk G) {L su:Nat→Int} {ml:List Int} {H:Nat→Option Int} {rem:List Nat} (h:LsI G L (atZ ml) su H rem) (hl:ml.length=G.prods.length):∀ q,-1048576≤atZ ml q∧atZ ml q≤1048576:=fun q=>by
 by_cases hq:q<G.prods.length
 ·rw[h.miE q hq]
  have h2:(rlN G q).countP (fd L)≤(rlN G q).length:=List.countP_le_length
  have h3:=zjo G q
  have h5:=hG.pr _ (zag hq)
  omega
 ·have:atZ ml q=0:=by unfold atZ;rw[List.getD_eq_getElem?_getD,List.getElem?_eq_none (by omega)];rfl
  omega
end Go.Proofs.YtagohbpbgjelaaaGreatDoor

namespace Go.Proofs.YtagohbpbgjelaaaGreatDoor
open Go.RowKit

theorem zp4 {G:Gm} (hG:GOk G):smG G:=fun p hp=>by have:=hG.pr p hp;omega
end Go.Proofs.YtagohbpbgjelaaaGreatDoor

namespace Go.Proofs.YtagohbpbgjelaaaGreatDoor
open Go.RowKit

theorem rulesL_mem {nk:Nat} {row:List Int} {y:Int}:y ∈ zar nk row↔∃ x,x ∈ row∧(nk:Int)≤x∧y=x - nk:=by
 unfold zar
 rw[List.mem_flatMap]
 constructor
 ·rintro⟨x,h1,h2⟩
  split at h2
  ·rename_i h;simp at h2;exact⟨x,h1,by first | omega | (simp at h;omega),h2⟩
  ·simp at h2
 ·rintro⟨x,h1,h2,rfl⟩
  exact⟨x,h1,by rw[if_pos (by first | omega | (simp;omega))];simp⟩
theorem nxtL_mem {G:Gm} {ok:Nat→Bool} {r:Nat} {y:Int}:y ∈ zeK G ok (zdt G r)↔∃ q,q<G.prods.length∧(G.prods.getD q pd0).left.toNat=r∧ok q=true∧y ∈ zar G.nk (G.prods.getD q pd0).right:=by
 unfold zeK zdt
 rw[List.mem_flatMap]
 constructor
 ·rintro⟨q,h1,h2⟩
  simp only[List.mem_filter,List.mem_range,decide_eq_true_eq] at h1
  split at h2
  ·rename_i h;exact⟨q,h1.1,h1.2,h,h2⟩
  ·simp at h2
 ·rintro⟨q,h1,h2,h3,h4⟩
  exact⟨q,by simp only[List.mem_filter,List.mem_range,decide_eq_true_eq];exact⟨h1,h2⟩,by rw[if_pos h3];exact h4⟩
structure RcI (G:Gm) (ok:Nat→Bool) (okP:Pd→Bool) (fs:List Nat) (a:Nat):Prop where
 nd:fs.Nodup
 lt:∀ x,x ∈ fs→x<G.rules.length
 st:G.start.toNat ∈ fs
 snd:∀ x,x ∈ fs→Rchd G okP x
 le:a≤fs.length
 shut:∀ j,j<a→∀ y,y ∈ zeK G ok (zdt G (fs.getD j 0))→y.toNat ∈ fs
theorem zpy {l:List Nat} {y j:Nat} (h:j<l.length):(l ++ [y]).getD j 0=l.getD j 0:=by
 rw[List.getD_eq_getElem?_getD,List.getElem?_append_left h,← List.getD_eq_getElem?_getD]
theorem zoL {G:Gm} (hG:GOk G) (ok:Nat→Bool) (okP:Pd→Bool):RcI G ok okP [G.start.toNat] 0:=by
 have h0:=hG.s0;have h1:=hG.s1
 unfold Gm.nr at h1
 exact⟨by simp,fun x hx=>by simp at hx;subst hx;omega,by simp,fun x hx=>by simp at hx;subst hx;exact .start,Nat.zero_le _,fun j hj=>by omega⟩
theorem zqB {G:Gm} {ok:Nat→Bool} {okP:Pd→Bool} {fs:List Nat} {a y:Nat} (h:RcI G ok okP fs a) (hy:y<G.rules.length) (hr:Rchd G okP y) (hn:y ∉ fs):RcI G ok okP (fs ++ [y]) a:=by
 refine⟨?_,fun x hx=>?_,List.mem_append_left _ h.st,fun x hx=>?_,by have:=h.le;simp;omega,fun j hj z hz=>?_⟩
 ·rw[List.nodup_append]
  exact⟨h.nd,by simp,fun x hx z hz=>by simp at hz;subst hz;intro e;subst e;exact hn hx⟩
 ·rcases List.mem_append.1 hx with h1 | h1
  ·exact h.lt x h1
  ·simp at h1;subst h1;exact hy
 ·rcases List.mem_append.1 hx with h1 | h1
  ·exact h.snd x h1
  ·simp at h1;subst h1;exact hr
 ·rw[zpy (by have:=h.le;omega)] at hz
  exact List.mem_append_left _ (h.shut j hj z hz)
theorem zqC {G:Gm} {ok:Nat→Bool} {okP:Pd→Bool} {fs:List Nat} {a:Nat} (h:RcI G ok okP fs a) (ha:a<fs.length) (hs:∀ y,y ∈ zeK G ok (zdt G (fs.getD a 0))→y.toNat ∈ fs):RcI G ok okP fs (a+1) :=
 ⟨h.nd,h.lt,h.st,h.snd,ha,fun j hj y hy=>by
  by_cases e:j=a
  ·subst e;exact hs y hy
  ·exact h.shut j (by omega) y hy⟩
theorem zoM {G:Gm} {ok:Nat→Bool} {okP:Pd→Bool} (hok:∀ q,q<G.prods.length→ok q=okP (G.prods.getD q pd0)) (hG:GOk G) {r:Nat} (hr:Rchd G okP r) {y:Int} (hy:y ∈ zeK G ok (zdt G r)):Rchd G okP y.toNat∧0≤y∧y.toNat<G.rules.length:=by
 obtain⟨q,h1,h2,h3,h4⟩:=nxtL_mem.1 hy
 obtain⟨x,h5,h6,rfl⟩:=rulesL_mem.1 h4
 have h7:=hG.py _ (zag h1) x h5
 unfold Gm.nr at h7
 refine⟨.step (G.prods.getD q pd0) (zag h1) (by rw[← hok q h1];exact h3) (by rw[h2];exact hr) x h5 h6,by omega,by omega⟩
theorem zp6 {G:Gm} {ok:Nat→Bool} {okP:Pd→Bool} {fs:List Nat} {a:Nat} (h:RcI G ok okP fs a):fs.length≤G.rules.length:=by
 have:=Wk.nodup_bound G.rules.length (zai fs) (by
  unfold zai
  refine List.Pairwise.map (R:=(·≠·)) _ (fun a b hab e=>hab (by omega)) h.nd) (fun x hx=>by
  obtain⟨y,hy,rfl⟩:=castL_mem.1 hx
  have:=h.lt y hy
  omega)
 rwa [zak] at this
theorem rc_end {G:Gm} {ok:Nat→Bool} {okP:Pd→Bool} (hok:∀ q,q<G.prods.length→ok q=okP (G.prods.getD q pd0)) {fs:List Nat} (h:RcI G ok okP fs fs.length):(fun r=>decide (r ∈ fs))=zp5 G okP:=by
 refine zkc ⟨by simpa using h.st,fun r hr=>h.snd r (by simpa using hr)⟩ (fun i hi hl ho x hx hk=>?_)
 simp only[decide_eq_true_eq] at hl ⊢
 obtain⟨j,hj,e⟩:=List.getElem_of_mem hl
 have:=h.shut j hj (x - G.nk) (nxtL_mem.2 ⟨i,hi,by rw[show fs.getD j 0=fs[j] by rw[List.getD_eq_getElem?_getD,List.getElem?_eq_getElem hj];rfl];exact e.symm,by rw[hok i hi];exact ho,rulesL_mem.2 ⟨x,hx,hk,rfl⟩⟩)
 exact this
end Go.Proofs.YtagohbpbgjelaaaGreatDoor

namespace Go.Proofs.YtagohbpbgjelaaaGreatDoor
open Go.RowKit

structure RhI (G:Gm) (ok:Nat→Bool) (okP:Pd→Bool) (w:World) (bb lb base:Nat) (fs:List Nat) (a m g cap:Nat) (W:World):Prop where
 mrk:W.rowIs bb 4 G.rules.length (fun r=>.bool (decide (r ∈ fs.take m)))
 lf:zep W lb G.rules.length (fun i=>decide (i<G.rules.length) && !decide (i ∈ fs))
 fd:W.ownsRow base 3 1 (.slice (some ⟨g,0,none⟩) (zai fs).length cap) (zai fs).length (zal (zai fs))
 rc:RcI G ok okP fs a
 bl:Below w.heap.size w W
 le:base≤W.heap.size
set_option maxHeartbeats 1000000 in
set_option maxRecDepth 100000 in
theorem zf6 (G:Gm) (hG:GOk G) (ka pa ra qa:Option Addr) (kc pc rc qc gb ob ub:Nat) (M:Nat) (F:Nat) (cap:Array Value) (ok:Nat→Bool) (okP:Pd→Bool) (hok:∀ q,q<G.prods.length→ok q=okP (G.prods.getD q pd0)) (hcf:∀ args W,Sem.run Tryz.prog (callFunc F args) W=.ok (.enter F args) W) (w:World) (hM:M≤w.heap.size) (hg:GrAt M w G ka kc pa pc ra rc qa qc gb ob ub)
 (hF:∀ W q,q<G.prods.length→Below w.heap.size w W→Calls Tryz.prog F (#[.int .i64 (q:Nat)] ++ cap) W fun e W'=>e=.returned (.bool (ok q))∧Below W.heap.size W W') :
 Calls Tryz.prog 32 #[.pointer (some ⟨gb,0,none⟩),.func (.func F) #[] cap] w fun e w'=>∃ b:Nat,e=.returned (.slice (some ⟨b,0,none⟩) G.rules.length G.rules.length)∧w'.rowIs b 4 G.rules.length (fun r=>.bool (zp5 G okP r))∧w.heap.size≤b∧Below w.heap.size w w':=by
 obtain⟨i3,hi3,hz30,hz31,hz32⟩:=zao zc0
 have hr2:=hG.r2
 unfold Gm.nr at hr2
 have hs0:=hG.s0;have hs1:=hG.s1
 unfold Gm.nr at hs1
 obtain⟨st,hst⟩:∃ st:Nat,G.start=st:=⟨G.start.toNat,by omega⟩
 have c2:w.cell? ⟨gb,2,none⟩=some (.slice ra G.rules.length rc):=by unfold World.cell?;rw[hg.box];rfl
 have c4:w.cell? ⟨gb,4,none⟩=some (.int .i64 (st:Int)):=by unfold World.cell?;rw[hg.box,← hst];rfl
 have hgl:gb<w.heap.size:=by have:=hg.lt;omega
 have hmk:=fun w=>run_make_row' (P:=Tryz.prog) 28 4 (.bool false) 1 Tryz.underlying28 zlx rfl .i64 .i64 G.rules.length (by omega) (by omega) w
 have hrs:=zoL hG ok okP
 have est:G.start.toNat=st:=by omega
 rw[est] at hrs
 have Hg:=zaa hg;have HF:=zaa hF;have Hrs:=zaa hrs;have Hok:=zaa hok
 clear hg hF hrs hok
 go_enter Tryz.func32,Tryz.ntmps32
 go_wp2_with fail
 have hz1:=World.rowIs_made w (.bool false) G.rules.length 4
 have hb1:Below w.heap.size w (w.alloc (Obj.cells (madeCells #[Value.bool false] G.rules.length) 4)):=(Below.refl _ _).alloc (Nat.le_refl _) _
 generalize hw1:w.alloc (Obj.cells (madeCells #[Value.bool false] G.rules.length) 4)=w1 at *
 have hsz1:w1.heap.size=w.heap.size+1:=by rw[← hw1];simp
 clear hw1
 refine(zgB gb G.rules.length ra rc hr2 w1 (by omega) ((hb1.cell (by simpa using hgl)).trans c2)).mono ?_
 rintro e w2 ⟨lb,rfl,hlf2,hlb1,hlb2,hb2⟩
 have hs2:=hb2.size
 have hb12:=hb1.trans (zab hb2 (by omega))
 have hz2:=hz1.of_block (hb2.block w.heap.size (by omega))
 have c4':=(hb12.cell (p:=⟨gb,4,none⟩) (by simpa using hgl)).trans c4
 have HT:=zaa (zhm lb G.rules.length st _ (by omega) w2 hlf2)
 clear hlf2 hz1 c2 c4
 have Hb12:=zaa hb12;have Hz2:=zaa hz2
 clear hb12 hz2 hb1 hb2
 go_wp2_with fail
 refine(uh HT).mono ?_
 rintro e w3 ⟨rfl,hlf3,hf3⟩
 have hs3:w2.heap.size≤w3.heap.size:=hf3.1
 have hb3:Below w.heap.size w w3:=(uh Hb12).trans (zah hf3 (by omega) (fun k hk=>by omega))
 have hz3:=(uh Hz2).of_block (hf3.2.1 w.heap.size (by omega) (by omega))
 have c4'':=(hb3.cell (p:=⟨gb,4,none⟩) (by simpa using hgl)).trans ((uh Hb12).cell (p:=⟨gb,4,none⟩) (by simpa using hgl)▸c4')
 have HR0:Hid (RhI G ok okP w w.heap.size lb w3.heap.size [st] 0 0 w3.heap.size 1 (w3.alloc (.cells #[.int .i64 (st:Int)] 3))):=zaa (by
  refine⟨?_,?_,?_,uh Hrs,hb3.alloc hb3.size _,by simp⟩
  ·refine((hz3.of_block (w':=w3.alloc _) ?_)).congr (fun r _=>by simp)
   exact((Below.refl w3.heap.size w3).alloc (Nat.le_refl _) _).block _ (by omega)
  ·refine zcT (W:=w3) ?_ (((Below.refl w3.heap.size w3).alloc (Nat.le_refl _) _).block _ (by omega))
   obtain⟨D,h1,h2⟩:=hlf3
   exact⟨D,h1,fun i=>by rw[h2 i];by_cases e:i=st <;> simp[e]⟩
  ·have:=World.ownsRow_lit (base:=w3.heap.size) (e:=3) (size:=1) w3 #[.int .i64 (st:Int)] 1 (Nat.le_refl _) (by unfold maxLen;omega) rfl
   simpa [zai,zal] using this)
 clear hlf3 hf3 hz3 hb3 HT Hb12 Hz2
 have hlb3:lb<w3.heap.size:=by omega
 go_wp2
 go_loopw [7,8] (fun u x W=>∃ (fs:List Nat) (a g cp:Nat),u=.slice (some ⟨g,0,none⟩) (zai fs).length cp∧x=.int .i64 a∧RhI G ok okP w w.heap.size lb w3.heap.size fs a a g cp W) (fun _ x _=>G.rules.length - (intOf x).toNat)
 case atStart=>exact⟨[st],0,w3.heap.size,1,rfl,rfl,uh HR0⟩
 case round =>
  clear HR0 c4'' c4'
  obtain⟨fs,a,g,cp,rfl,rfl,hR⟩:=hrel
  have hlen:=zp6 hR.rc
  have hcl:=zak fs
  by_cases hlt:a<fs.length
  ·have hlt':(a:Int)<(zai fs).length:=by omega
   obtain⟨_,_,he,hgl2,hca,hcf2⟩:=zko hR.fd (i:=a) (by omega)
   cases he
   rw[zbF hlt] at hca
   have hrm:fs.getD a 0 ∈ fs:=by rw[List.getD_eq_getElem?_getD,List.getElem?_eq_getElem hlt];exact List.getElem_mem hlt
   have hrl:=hR.rc.lt _ hrm
   have hrl':((fs.getD a 0:Nat):Int)<G.rules.length:=by omega
   have hmc:=hR.mrk.cell hrl
   have hmf:=hR.mrk.frozen (fs.getD a 0)
   have hset:Fr (· = w.heap.size) wr (wr.setCell ⟨w.heap.size,fs.getD a 0,none⟩ (.bool true)):=zaz (zav _ _) (by rfl) _
   have hR1:RhI G ok okP w w.heap.size lb w3.heap.size fs a (a+1) g cp (wr.setCell ⟨w.heap.size,fs.getD a 0,none⟩ (.bool true)):=by
    have hg3:=(hR.fd.lt g rfl).1
    have hle:=hR.le
    refine⟨(hR.mrk.set (fs.getD a 0) _).congr (fun r _=>?_),zcT hR.lf (hset.2.1 lb (by omega) (by omega)),zcc hR.fd (fun k hk=>hset.2.1 k (hR.fd.lt k hk).2 (by have:=(hR.fd.lt k hk).1;omega)),hR.rc,hR.bl.trans (zah hset hR.bl.size (fun k hk=>by omega)),by have:=hset.1;omega⟩
    have e:fs.take (a+1)=fs.take a ++ [fs.getD a 0]:=by rw[List.take_add_one,List.getD_eq_getElem?_getD,List.getElem?_eq_getElem hlt];rfl
    rw[e]
    by_cases e2:r=fs.getD a 0
    ·subst e2;simp
    ·rw[if_neg e2];congr 1;rw[decide_eq_decide];simp only[List.mem_append,List.mem_singleton];exact⟨Or.inl,fun h=>h.resolve_right e2⟩
   have HN:Hid _:=zaa (zo5 G hG ka pa ra qa kc pc rc qc gb ob ub M F cap ok hcf (fs.getD a 0) hrl (wr.setCell ⟨w.heap.size,fs.getD a 0,none⟩ (.bool true)) (by have:=hR1.bl.size;omega) (zaJ (uh Hg) (zab hR1.bl hM)) (fun W q hq hb=>uh HF W q hq (hR1.bl.trans (zab hb hR1.bl.size))))
   have hrch:=hR1.rc.snd _ hrm
   have Hnx:=zaa (fun y hy=>zoM (uh Hok) hG hrch (y:=y) hy)
   have hgl3:g<(wr.setCell ⟨w.heap.size,fs.getD a 0,none⟩ (.bool true)).heap.size:=(hR1.fd.lt g rfl).2
   have HR1:=zaa hR1
   have hgb3:w3.heap.size≤g:=(hR.fd.lt g rfl).1
   have hrd:=zaa (show (wr.setCell ⟨w.heap.size,fs.getD a 0,none⟩ (.bool true)).cell? ⟨g,a,none⟩=some (.int .i64 (fs.getD a 0:Nat)) from(World.cell?_of_block (hset.2.1 g hgl2 (by omega))).trans hca)
   clear hR hR1 hset hrch
   generalize hrr:fs.getD a 0=rr at *
   go_wp2_with fail
   generalize wr.setCell ⟨w.heap.size,rr,none⟩ (.bool true)=W1 at *
   refine(uh HN).mono ?_
   rintro e W5 ⟨v5,rfl,how5,hb5⟩
   obtain⟨va,vc,rfl⟩:=zad how5
   have hs5:=hb5.size
   have hR1:=uh HR1
   have hs1w:=hR1.le
   have hl1:=zhV hR1.lf
   have hm1:=hR1.mrk.lt
   have hR5:RhI G ok okP w w.heap.size lb w3.heap.size fs a (a+1) g cp W5:=⟨hR1.mrk.of_block (hb5.block _ hm1),zcT hR1.lf (hb5.block _ hl1),zcc hR1.fd (fun k hk=>hb5.block k (hR1.fd.lt k hk).2),hR1.rc,hR1.bl.trans (zab hb5 hR1.bl.size),by omega⟩
   have hln:(zeK G ok (zdt G rr)).length≤262144:=by
    have h1:=zkv G hG ok (zdt G rr) (fun q hq=>zhA hq)
    have h2:=zkp G rr
    have h3:=hG.ps
    omega
   have HR5:=zaa hR5;have How5:=zaa how5
   clear hR5 hR1 how5 hb5 HR1 HN hca hcf2 hmc hmf hrd
   generalize hL:zeK G ok (zdt G rr)=L at *
   go_wp2
   go_loopw [7,53] (fun u x W=>∃ (fs':List Nat) (j g' cp':Nat),u=.slice (some ⟨g',0,none⟩) (zai fs').length cp'∧x=.int .i64 j∧j≤L.length∧RhI G ok okP w w.heap.size lb w3.heap.size fs' a (a+1) g' cp' W∧(∃ t,fs'=fs ++ t)∧(∀ i,i<j→(L.getD i 0).toNat ∈ fs')∧W.ownsRow W1.heap.size 3 1 (.slice va L.length vc) L.length (zal L)∧(Value.slice va L.length vc).ownBlock≠some g') (fun _ x _=>L.length - (intOf x).toNat)
   case atStart=>exact⟨fs,0,g,cp,by rw[hcl],rfl,Nat.zero_le _,uh HR5,⟨[],by simp⟩,fun i hi=>by omega,uh How5,fun e=>by have:=((uh How5).lt g e).1;omega⟩
   case round =>
    clear HR5 How5
    obtain⟨fs',j,g',cp',rfl,rfl,hj,hR,hpre,hin,hown,hne⟩:=hrel
    by_cases hjl:j<L.length
    ·have hjl':(j:Int)<L.length:=by omega
     obtain⟨_,_,he,hglL,hcL,-⟩:=zko hown hjl
     cases he
     have hym:L.getD j 0 ∈ L:=by rw[List.getD_eq_getElem?_getD,List.getElem?_eq_getElem hjl];exact List.getElem_mem hjl
     obtain⟨hyr,hy0,hyl⟩:=uh Hnx _ hym
     obtain⟨y,hy⟩:∃ y:Nat,L.getD j 0=y:=⟨(L.getD j 0).toNat,by omega⟩
     have hin':∀ F:List Nat,(∃ t,F=fs' ++ t)→y ∈ F→∀ i,i<j+1→(L.getD i 0).toNat ∈ F:=fun F ⟨t,ht⟩ hyF i hi=>by
      by_cases e:i=j
      ·subst e;rw[hy];simpa using hyF
      ·rw[ht];exact List.mem_append_left _ (hin i (by omega))
     rw[hy] at hcL hyr hyl
     simp only[Int.toNat_natCast] at hyr hyl
     have HT:=zaa (zhm lb G.rules.length y _ (by omega) wr hR.lf)
     have hfl:=zp6 hR.rc
     have hcl':=zaa (zak fs')
     have HR:=zaa hR;have Hpre:=zaa hpre;have Hin:=zaa hin';have Hown:=zaa hown
     clear hR hpre hin hin' hown
     go_wp2_with fail
     refine(uh HT).mono ?_
     rintro e w6 ⟨rfl,hlf6,hf6⟩
     have hR:=uh HR
     have hgg:=hR.fd.lt g' rfl
     have hmm:=hR.mrk.lt
     have hs6:wr.heap.size≤w6.heap.size:=hf6.1
     have hmk6:=hR.mrk.of_block (hf6.2.1 _ hmm (by omega))
     have hfd6:=zcc hR.fd (fun k hk=>hf6.2.1 k (hR.fd.lt k hk).2 (by have:=(hR.fd.lt k hk).1;omega))
     have hb6:=hR.bl.trans (zah hf6 hR.bl.size (fun k hk=>by omega))
     have ho6:=zcc (uh Hown) (fun k hk=>hf6.2.1 k ((uh Hown).lt k hk).2 (by have:=((uh Hown).lt k hk).1;omega))
     have hle:=hR.le
     by_cases hyf:y ∈ fs'
     ·have e1:(decide (y<G.rules.length) && !decide (y ∈ fs'))=false:=by simp[hyf]
      rw[e1]
      have HR6:Hid (RhI G ok okP w w.heap.size lb w3.heap.size fs' a (a+1) g' cp' w6):=zaa (by
       refine⟨hmk6,?_,hfd6,hR.rc,hb6,by omega⟩
       obtain⟨D,h1,h2⟩:=hlf6
       exact⟨D,h1,fun i=>by rw[h2 i];by_cases e:i=y <;> simp[e,hyf]⟩)
      have Ho6:=zaa ho6
      clear hlf6 hf6 hR hmk6 hfd6 hb6 ho6 HR
      go_wp2
      go_roundw
      case rel=>exact⟨fs',j+1,g',cp',by rw[uh hcl'],by go_num,by omega,uh HR6,uh Hpre,uh Hin fs' ⟨[],by simp⟩ hyf,uh Ho6,hne⟩
      case measure=>simp[intOf];omega
     ·have e1:(decide (y<G.rules.length) && !decide (y ∈ fs'))=true:=by simp[hyf,hyl]
      rw[e1]
      have HA:=zaa (And.intro hmk6 (And.intro hlf6 (And.intro hb6 (And.intro ho6 hR.rc))))
      have Hfd6:=zaa hfd6
      clear hlf6 hf6 hR hmk6 hfd6 hb6 ho6 HR
      have hcl2:=uh hcl'
      rw[hcl2] at Hfd6
      go_wp2_with (at_builtin;refine wpList_append_lies _ rfl _ _ 27 rfl w3.heap.size 3 i3 (.int .i64 0) 1 8 Tryz.underlying27 hi3 hz30 hz31 hz32 rfl (by decide) _ _ _ rfl ((uh Hfd6).alloc _) ⟨w6.heap.size,0,none⟩ 1 1 [.int .i64 (y:Int)] rfl rfl (ziC _ _ _) ?zc2 (by decide) ?zc3 ?zc4 ?zc5 (w6.heap.size+1) (by simp) ?_)
      case zc2=>intro u hu;simp at hu;rcases hu with rfl;rfl
      case zc3=>unfold maxLen;omega
      case zc4=>omega
      case zc5=>simp;omega
      intro g7 cap7 W7 hown7 hgrow hg7 hl7
      obtain⟨hmk6,hlf6,hb6,ho6,hrc⟩:=uh HA
      have hal:Below w6.heap.size w6 (w6.alloc (.cells #[.int .i64 (y:Int)] 3)):=(Below.refl _ _).alloc (Nat.le_refl _) _
      have hkp:∀ k,k<w6.heap.size→k≠g'→W7.heap[k]? = w6.heap[k]?:=fun k hk hne'=>(hgrow.block k (by have:=hal.size;omega) (fun e=>hne' (by simpa [Value.ownBlock,eq_comm] using e))).trans (hal.block k hk)
      have hs7:w6.heap.size≤W7.heap.size:=Nat.le_trans hal.size hgrow.size
      have HR7:Hid (RhI G ok okP w w.heap.size lb w3.heap.size (fs' ++ [y]) a (a+1) g7 cap7 W7):=zaa (by
       refine⟨(hmk6.of_block (hkp _ (by omega) (by omega))).congr (fun r _=>?_),?_,?_,zqB hrc hyl hyr hyf,?_,by omega⟩
       ·have hpl:a+1≤fs'.length:=by obtain⟨t,ht⟩:=uh Hpre;rw[ht,List.length_append];omega
        rw[List.take_append_of_le_length hpl]
       ·refine zcT (W:=w6) ?_ (hkp _ (by omega) (by omega))
        obtain⟨D,h1,h2⟩:=hlf6
        exact⟨D,h1,fun i=>by rw[h2 i];by_cases e:i=y <;> simp[e,hyl]⟩
       ·have e2:zai (fs' ++ [y])=zai fs' ++ [(y:Int)]:=by simp[zai]
        rw[zak,List.length_append,e2,← zaN]
        exact hown7
       ·have hga:∀ k,(Value.slice (some ⟨g',0,none⟩) fs'.length cp').ownBlock=some k→w.heap.size≤k:=fun k hk=>by
         have e3:g'=k:=by simpa [Value.ownBlock] using hk
         omega
        exact(hb6.alloc hb6.size _).grown hgrow (Nat.le_trans hb6.size hal.size) hga)
      have Ho7:=zaa (zcc ho6 (fun k hk=>hkp k (ho6.lt k hk).2 (fun e=>hne (by rw[← e];exact hk))))
      have Hne7:Hid (∀ k,some k=some g7→(Value.slice (some ⟨_,0,none⟩) L.length _).ownBlock≠some k):=zaa (fun k hk e=>by
       cases hk
       rcases hg7 with h | h
       ·exact hne (e.trans h.symm)
       ·have:=(ho6.lt g7 e).2
        omega)
      clear hown7 hgrow hmk6 hlf6 hb6 ho6 hrc HA hkp
      go_wp2
      go_roundw
      case rel=>exact⟨fs' ++ [y],j+1,g7,cap7,by rw[zak,List.length_append];rfl,by go_num,by omega,uh HR7,(uh Hpre).elim fun t ht=>⟨t ++ [y],by rw[ht,List.append_assoc]⟩,uh Hin _ ⟨[y],rfl⟩ (by simp),uh Ho7,uh Hne7 _ rfl⟩
      case measure=>simp[intOf];omega
    ·obtain rfl:j=L.length:=by omega
     have HR:=zaa hR;have Hpre:=zaa hpre;have Hin:=zaa hin
     clear hR hpre hin hown
     go_wp2
     go_roundw
     case rel =>
      obtain⟨t,ht⟩:=uh Hpre
      have hR:=uh HR
      refine⟨fs',a+1,g',cp',rfl,by go_num,hR.mrk,hR.lf,hR.fd,zqC hR.rc (by rw[ht,List.length_append];omega) (fun y hy=>?_),hR.bl,hR.le⟩
      have e1:fs'.getD a 0=rr:=by rw[ht,List.getD_eq_getElem?_getD,List.getElem?_append_left hlt,← List.getD_eq_getElem?_getD];exact hrr
      rw[e1,hL] at hy
      obtain⟨i,hi,e2⟩:=List.getElem_of_mem hy
      have:=uh Hin i hi
      rw[List.getD_eq_getElem?_getD,List.getElem?_eq_getElem hi] at this
      simpa [e2] using this
     case measure=>simp[intOf];omega
  ·obtain rfl:a=fs.length:=by have:=hR.rc.le;omega
   have Hend:=zaa (rc_end (uh Hok) hR.rc)
   have HR:=zaa hR
   clear hR
   go_wp2
   go_ret
   refine⟨w.heap.size,rfl,(uh HR).mrk.congr (fun r _=>?_),Nat.le_refl _,(uh HR).bl⟩
   rw[List.take_of_length_le (Nat.le_refl _),← uh Hend]
end Go.Proofs.YtagohbpbgjelaaaGreatDoor

/- The code's alone: the rules of a row that can stand alone. -/
import Derived.Test.YtagohbpbgjelaaaGreatDoorGY
import Derived.Test.YtagohbpbgjelaaaGreatDoorA5
import Derived.Test.YtagohbpbgjelaaaGreatDoorSP
import Derived.Test.YtagohbpbgjelaaaGreatDoorGX
namespace Go.Proofs.YtagohbpbgjelaaaGreatDoor
open Go.RowKit

noncomputable def firmB (G:Gm) (x:Int):Bool:=!(decide ((G.nk:Int)≤x) && nullF G (x - G.nk).toNat)
noncomputable def firmL (G:Gm) (row:List Int):List Int:=row.filter (firmB G)
theorem firmL_take (G:Gm) (row:List Int) (k:Nat) (hk:k<row.length):firmL G (row.take (k+1))=firmL G (row.take k) ++ if firmB G (row.getD k 0) then[row.getD k 0] else[]:=by
 unfold firmL
 rw[take_snoc row k 0 hk,List.filter_append]
 congr 1
 generalize row.getD k 0=x
 by_cases h:firmB G x=true
 · rw[if_pos h];simp[h]
 · rw[if_neg h];simp[h]
theorem firmL_len (G:Gm) (row:List Int):(firmL G row).length≤row.length:=List.length_filter_le _ _
noncomputable def aloneL (G:Gm) (row:List Int):List Int:=if (firmL G row).length=0 then rulesL G.nk row else if (firmL G row).length=1 then rulesL G.nk (firmL G row) else[]
theorem bgAt_below {M:Nat} {w w':World} {G:Gm} {bb nb sb sc gb:Nat} {A:Nat→Nat} (h:BgAt M w G bb nb sb sc gb A) (hb:Below w.heap.size w w'):BgAt M w' G bb nb sb sc gb A:=by
 obtain⟨OO,rep,C,h1,h2⟩:=h.st
 exact⟨(hb.block _ (Array.getElem?_eq_some_iff.1 h.bx).1).trans h.bx,h.nu.of_block (hb.block _ h.nu.lt),⟨OO,rep,C,sets_below h1 hb,h2⟩,h.b1,h.b2⟩
set_option maxHeartbeats 2000000 in
set_option maxRecDepth 100000 in
theorem alone_any (G : Gm) (hG : GOk G) (ka : Option Addr) (kc gb bb nb : Nat) (sv : Value) (ro : Option Addr) (rowc : Nat) (row : List Int) (hl : row.length ≤ 64) (hx : symsIn (G.nk + G.nr) row) (w : World) (hgb : gb < w.heap.size) (hc0 : w.cell? ⟨gb, 0, none⟩ = some (.slice ka G.kinds.length kc)) (hbx : w.heap[bb]? = some (.cells #[.pointer (some ⟨gb, 0, none⟩), .slice (some ⟨nb, 0, none⟩) G.rules.length G.rules.length, sv] 64 (0, 0))) (hnu : w.rowIs nb 4 G.rules.length (fun r => .bool (nullF G r))) (hrow : NRow w.heap.size w ro row) :
   Calls Tryz.prog 88 #[.pointer (some ⟨bb,0,none⟩),.slice ro row.length rowc] w fun e w'=>∃ v,e=.returned v∧w'.ownsRow w.heap.size 3 1 v (aloneL G row).length (vints (aloneL G row))∧Below w.heap.size w w':=by
 obtain⟨i3,hi3,hz30,hz31,hz32⟩:=info_parts info3
 have hk3:=hG.k3;have hr2:=hG.r2
 unfold Gm.nk at hk3
 unfold Gm.nr at hr2
 have hnot:=run_not
 have Hc0:=hide hc0;have Hrow:=hide hrow;have Hx:=hide hx;have Hbx:=hide hbx;have Hnu:=hide hnu
 clear hc0 hrow hx hbx hnu
 go_enter Tryz.func88,Tryz.ntmps88
 go_wp2
 go_loopw [5,12] (fun u x W=>∃ k:Nat,x=.int .i64 k∧k≤row.length∧W.ownsRow w.heap.size 3 1 u (firmL G (row.take k)).length (vints (firmL G (row.take k)))∧Below w.heap.size w W) (fun _ x _=>row.length - (intOf x).toNat)
 case atStart=>exact⟨0,rfl,Nat.zero_le _,World.ownsRow_nil _ _ _ _,Below.refl _ _⟩
 case round =>
   obtain⟨k,rfl,hk,hown,hb⟩:=hrel
   obtain⟨ua,uc,rfl⟩:=own_form hown
   have hsz:=hb.size
   have hle:=firmL_len G (row.take k)
   rw[List.length_take] at hle
   have hbx:=(hb.block _ (Array.getElem?_eq_some_iff.1 (uh Hbx)).1).trans (uh Hbx)
   have hnuw:=(uh Hnu).of_block (hb.block _ (uh Hnu).lt)
   have b0:wr.cell? ⟨bb,0,none⟩=some (.pointer (some ⟨gb,0,none⟩)):=by unfold World.cell?;rw[hbx];rfl
   have b1:wr.cell? ⟨bb,1,none⟩=some (.slice (some ⟨nb,0,none⟩) G.rules.length G.rules.length):=by unfold World.cell?;rw[hbx];rfl
   have c0:=(hb.cell (p:=⟨gb,0,none⟩) hgb).trans (uh Hc0)
   have Hown:=hide hown;have Hb:=hide hb
   clear hbx
   by_cases hlt:k<row.length
   · have hlt':(k:Int)<row.length:=by omega
     obtain⟨b,off,rfl,hbl,hc⟩:=nrow_at (nrow_kept hb (uh Hrow)) hlt
     have hxk:=uh Hx _ (mem_getD hlt)
     unfold Gm.nk Gm.nr at hxk
     have Hs:=hide (firmL_take G row k hlt)
     have HR:=hide (rule_any gb (row.getD k 0) G.kinds.length ka kc hk3 (by omega) wr c0)
     have hfb:firmB G (row.getD k 0)=!(decide ((G.kinds.length:Int)≤row.getD k 0) && nullF G (row.getD k 0 - (G.kinds.length:Nat)).toNat):=rfl
     clear hown hb
     generalize row.getD k 0=x at *
     generalize hFm:firmL G (row.take k)=acc at *
     have App:∀ (hf:firmB G x=true),Hid (firmL G (row.take (k+1))=acc ++ [x]):=fun hf=>hide (by have:=uh Hs;rw[if_pos hf] at this;exact this)
     by_cases hr:(G.kinds.length:Int)≤x
     · rw[if_pos hr,decide_eq_true hr] at HR
       rw[decide_eq_true hr,Bool.true_and] at hfb
       obtain⟨y,hy⟩:∃ y:Nat,x - G.kinds.length=(y:Int):=⟨(x - G.kinds.length).toNat,by omega⟩
       rw[hy] at HR hfb
       rw[Int.toNat_natCast] at hfb
       have hyn:y<G.rules.length:=by omega
       have hyn':(y:Int)<G.rules.length:=by omega
       have ny:=hnuw.cell hyn
       cases hnu:nullF G y with
       | true =>
         rw[hnu] at hfb ny
         have Hs2:Hid (firmL G (row.take (k+1))=acc):=hide (by have:=uh Hs;rw[hfb] at this;simpa using this)
         clear App Hs hfb hnuw
         go_wp2_with fail
         refine(uh HR).mono ?_
         rintro e w9 ⟨rfl,rfl⟩
         go_wp2
         go_roundw
         case rel=>exact⟨k+1,by go_num,by omega,by rw[uh Hs2];exact uh Hown,uh Hb⟩
         case measure=>simp[intOf];omega
       | false =>
         rw[hnu] at hfb ny
         have Hs2:=App hfb
         clear App Hs hfb hnuw
         go_wp2_with fail
         refine(uh HR).mono ?_
         rintro e w9 ⟨rfl,rfl⟩
         go_wp2_with (at_builtin;refine wpList_append_own _ rfl _ _ 27 rfl w.heap.size 3 i3 (.int .i64 0) 1 8 Tryz.underlying27 hi3 hz30 hz31 hz32 rfl (by decide) _ _ _ rfl ((uh Hown).alloc _) ⟨wr.heap.size,0,none⟩ 1 1 [.int .i64 x] rfl rfl (new1 _ _ _) ?zc2 ?zc3 ?zc4 ?zc5 ?_)
         case zc2=>intro u hu;simp at hu;rcases hu with rfl;rfl
         case zc3=>unfold maxLen;omega
         case zc4=>omega
         case zc5=>simp;omega
         intro v' W3 hown' hgrow _
         have Hb4:=hide (((uh Hb).alloc hsz _).grown hgrow (by simp;omega) (fun j hj=>((uh Hown).lt j hj).1))
         have Ho4:=hide (show W3.ownsRow w.heap.size 3 1 v' (firmL G (row.take (k+1))).length (vints (firmL G (row.take (k+1)))) by rw[uh Hs2,← vints_snoc,List.length_append];exact hown')
         clear hown' hgrow
         go_wp2
         go_roundw
         case rel=>exact⟨k+1,by go_num,by omega,uh Ho4,uh Hb4⟩
         case measure=>simp[intOf];omega
     · rw[if_neg hr,decide_eq_false hr] at HR
       rw[decide_eq_false hr] at hfb
       have Hs2:=App hfb
       clear App Hs hfb hnuw
       go_wp2_with fail
       refine(uh HR).mono ?_
       rintro e w9 ⟨rfl,rfl⟩
       go_wp2_with (at_builtin;refine wpList_append_own _ rfl _ _ 27 rfl w.heap.size 3 i3 (.int .i64 0) 1 8 Tryz.underlying27 hi3 hz30 hz31 hz32 rfl (by decide) _ _ _ rfl ((uh Hown).alloc _) ⟨wr.heap.size,0,none⟩ 1 1 [.int .i64 x] rfl rfl (new1 _ _ _) ?zc2 ?zc3 ?zc4 ?zc5 ?_)
       case zc2=>intro u hu;simp at hu;rcases hu with rfl;rfl
       case zc3=>unfold maxLen;omega
       case zc4=>omega
       case zc5=>simp;omega
       intro v' W3 hown' hgrow _
       have Hb4:=hide (((uh Hb).alloc hsz _).grown hgrow (by simp;omega) (fun j hj=>((uh Hown).lt j hj).1))
       have Ho4:=hide (show W3.ownsRow w.heap.size 3 1 v' (firmL G (row.take (k+1))).length (vints (firmL G (row.take (k+1)))) by rw[uh Hs2,← vints_snoc,List.length_append];exact hown')
       clear hown' hgrow
       go_wp2
       go_roundw
       case rel=>exact⟨k+1,by go_num,by omega,uh Ho4,uh Hb4⟩
       case measure=>simp[intOf];omega
   · obtain rfl:k=row.length:=by omega
     rw[List.take_length] at Hown hown ⊢
     have hsr:∀ x,x ∈ row→0≤x∧x≤281474976710656:=fun x hx=>by have:=uh Hx x hx;unfold Gm.nk Gm.nr at this;omega
     have HA:=hide (rulesOf_any gb G.kinds.length ka kc hk3 ro rowc row (by omega) hsr wr c0 (by omega) (nrow_big hsz (nrow_kept hb (uh Hrow))))
     have hfn:NRow wr.heap.size wr ua (firmL G row):=by
       obtain⟨_,_,he,hn⟩:=own_nrow hown
       cases he
       exact hn
     have hfl:=firmL_len G row
     have HF:=hide (rulesOf_any gb G.kinds.length ka kc hk3 ua uc (firmL G row) (by omega) (fun x hx=>hsr x (List.mem_filter.1 hx).1) wr c0 (by omega) hfn)
     have Hal:Hid (aloneL G row=if (firmL G row).length=0 then rulesL G.kinds.length row else if (firmL G row).length=1 then rulesL G.kinds.length (firmL G row) else[]):=hide rfl
     clear hown hb hfn hnuw
     by_cases h0:(firmL G row).length=0
     · rw[if_pos h0] at Hal
       have h0':((firmL G row).length:Int)=0:=by omega
       rw[h0] at HF ⊢
       go_wp2_with fail
       refine(uh HA).mono ?_
       rintro e w9 ⟨v9,rfl,ho9,hb9⟩
       have Ho9:=hide (show w9.ownsRow w.heap.size 3 1 v9 (aloneL G row).length (vints (aloneL G row)) by rw[uh Hal];exact own_base ho9 hsz)
       have Hb9:=hide ((uh Hb).trans (below_le hb9 hsz))
       clear ho9 hb9
       go_wp2
       go_ret
       exact⟨v9,rfl,uh Ho9,uh Hb9⟩
     · rw[if_neg h0] at Hal
       by_cases h1:(firmL G row).length=1
       · rw[if_pos h1] at Hal
         rw[h1] at HF ⊢
         go_wp2_with fail
         refine(uh HF).mono ?_
         rintro e w9 ⟨v9,rfl,ho9,hb9⟩
         have Ho9:=hide (show w9.ownsRow w.heap.size 3 1 v9 (aloneL G row).length (vints (aloneL G row)) by rw[uh Hal];exact own_base ho9 hsz)
         have Hb9:=hide ((uh Hb).trans (below_le hb9 hsz))
         clear ho9 hb9
         go_wp2
         go_ret
         exact⟨v9,rfl,uh Ho9,uh Hb9⟩
       · rw[if_neg h1] at Hal
         have h0':¬ ((firmL G row).length:Int)=0:=by omega
         have h1':¬ ((firmL G row).length:Int)=1:=by omega
         generalize (firmL G row).length=fl at *
         go_wp2
         go_ret
         exact⟨_,rfl,by rw[uh Hal];exact World.ownsRow_nil _ _ _ _,uh Hb⟩
end Go.Proofs.YtagohbpbgjelaaaGreatDoor

namespace Go.Proofs.YtagohbpbgjelaaaGreatDoor
open Go.RowKit

def OfI (G:Gm) (row:List Int) (k:Nat) (f:Int→Bool):Prop:=∀ m,f m=true↔0≤m∧∃ i,i<k∧i<row.length∧(G.nk:Int)≤row.getD i 0∧Fst G (row.getD i 0 - G.nk).toNat m.toNat
def OfPost (G:Gm) (row:List Int) (w:World) (e:Ending) (w':World):Prop:=∃ S O f,e=.returned (.tuple #[.pointer (some ⟨S,0,none⟩),.bool (emptyB G.nk (nullF G) row)])∧SetN w' S O f∧(∀ m,f m=true↔0≤m∧begB G.nk (nullF G) (fstF G) row m.toNat=true)∧Below w.heap.size w w'
theorem of_kind {G : Gm} {row : List Int} {k : Nat} {f : Int → Bool} (h : OfI G row k f) (hk : k < row.length) (he : emptyB G.nk (nullF G) (row.take k) = true) (h0 : 0 ≤ row.getD k 0) (hx : row.getD k 0 < (G.nk : Int)) (m : Int) : addF f (row.getD k 0) m = true ↔ 0 ≤ m ∧ begB G.nk (nullF G) (fstF G) row m.toNat = true := by
 unfold addF
 rw[begB_iff]
 constructor
 · intro h1
   split at h1
   · rename_i e
     subst e
     exact⟨h0,k,hk,he,.inl ⟨hx,rfl⟩⟩
   · obtain⟨h2,i,hi,hil,h3,h4⟩:=(h m).1 h1
     refine⟨h2,i,hil,emptyB_iff.2 (fun x hx=>emptyB_iff.1 he x ?_),.inr ⟨h3,(fstF_is _ _ _).2 h4⟩⟩
     exact(List.take_subset_take_left row (by omega)) hx
 · rintro⟨h2,i,hil,h3,h4⟩
   have hik:i≤k:=by
     rcases Nat.lt_or_ge k i with hlt | hge
     · have:=empty_stop (G:=G) hk hlt (.inl hx);rw[h3] at this;cases this
     · exact hge
   rcases h4 with ⟨h4,h5⟩ | ⟨h4,h5⟩
   · by_cases e:i=k
     · subst e;rw[if_pos (by omega)]
     · exfalso
       have hm:row.getD i 0 ∈ row.take k:=by
         rw[List.getD_eq_getElem?_getD,List.getElem?_eq_getElem hil]
         exact List.mem_take_iff_getElem.2 ⟨i,by omega,rfl⟩
       have:=(emptyB_iff.1 he _ hm).1
       omega
   · have e:i≠k:=fun e=>by subst e;omega
     split
     · rfl
     · exact(h m).2 ⟨h2,i,by omega,hil,h4,(fstF_is _ _ _).1 h5⟩
theorem of_rule {G:Gm} {row:List Int} {k:Nat} {f g:Int→Bool} (h:OfI G row k f) (hk:k<row.length) (hx:(G.nk:Int)≤row.getD k 0) (hg:∀ m,g m=true↔0≤m∧Fst G (row.getD k 0 - G.nk).toNat m.toNat):OfI G row (k+1) (orF f g):=fun m=>by
 unfold orF
 rw[Bool.or_eq_true_iff,h m,hg m]
 constructor
 · rintro(⟨h1,i,h2,h3⟩ | ⟨h1,h2⟩)
   · exact⟨h1,i,by omega,h3⟩
   · exact⟨h1,k,by omega,hk,hx,h2⟩
 · rintro⟨h1,i,h2,h3,h4,h5⟩
   by_cases e:i=k
   · subst e;exact .inr ⟨h1,h5⟩
   · exact .inl ⟨h1,i,by omega,h3,h4,h5⟩
theorem of_stop {G:Gm} {row:List Int} {k:Nat} {f:Int→Bool} (h:OfI G row k f) (he:∀ i,i<k→emptyB G.nk (nullF G) (row.take i)=true) (hall:∀ i,i<k→(G.nk:Int)≤row.getD i 0) (hs:∀ i,k≤i→i<row.length→emptyB G.nk (nullF G) (row.take i)=false) (m:Int):f m=true↔0≤m∧begB G.nk (nullF G) (fstF G) row m.toNat=true:=by
 rw[h m,begB_iff]
 constructor
 · rintro⟨h1,i,h2,h3,h4,h5⟩;exact⟨h1,i,h3,he i h2,.inr ⟨h4,(fstF_is _ _ _).2 h5⟩⟩
 · rintro⟨h1,i,h2,h3,h4⟩
   have hik:i<k:=by
     rcases Nat.lt_or_ge i k with hlt | hge
     · exact hlt
     · rw[hs i hge h2] at h3;cases h3
   rcases h4 with ⟨h4,-⟩ | ⟨h4,h5⟩
   · have:=hall i hik;omega
   · exact⟨h1,i,hik,h2,h4,(fstF_is _ _ _).1 h5⟩
set_option maxHeartbeats 2000000 in
set_option maxRecDepth 100000 in
theorem of_any (G : Gm) (hG : GOk G) (ka : Option Addr) (kc gb bb nb sb sc N : Nat) (A : Nat → Nat) (ro : Option Addr) (rowc : Nat) (row : List Int) (hl : row.length ≤ 281474976710656) (hx : symsIn (G.nk + G.nr) row) (w : World) (hgb : gb < w.heap.size) (hc0 : w.cell? ⟨gb, 0, none⟩ = some (.slice ka G.kinds.length kc)) (hbg : BgAt N w G bb nb sb sc gb A) (hrow : NRow w.heap.size w ro row) :
   Calls Tryz.prog 46 #[.pointer (some ⟨bb,0,none⟩),.slice ro row.length rowc] w fun e w'=>OfPost G row w e w':=by
 have hk3:=hG.k3;have hr2:=hG.r2
 unfold Gm.nk at hk3
 unfold Gm.nr at hr2
 have hnot:=run_not
 have HS:=hide (newSet_any w)
 have Hc0:=hide hc0;have Hrow:=hide hrow;have Hx:=hide hx;have Hbg:=hide hbg
 clear hc0 hrow hx hbg
 go_enter Tryz.func46,Tryz.ntmps46
 go_wp2_with fail
 refine(uh HS).mono ?_
 rintro e w1 ⟨rfl,hb1,hlt1,hs1⟩
 have Hb1:=hide hb1;have Hs1:=hide hs1
 clear hb1 hs1 HS
 go_wp2
 go_loopw [14] (fun x V=>∃ (k:Nat) (f:Int→Bool) (O:Nat→Prop),x=.int .i64 k∧k≤row.length∧OfI G row k f∧emptyB G.nk (nullF G) (row.take k)=true∧SetN V w.heap.size O f∧(∀ q,O q→w.heap.size≤q)∧Below w.heap.size w V) (fun x _=>row.length - (intOf x).toNat)
 case atStart=>exact⟨0,fun _=>false,_,rfl,Nat.zero_le _,fun m=>⟨fun h=>(by cases h),fun⟨_,i,h,_⟩=>(by omega)⟩,by simp[emptyB],uh Hs1,fun q hq=>by rw[hq];exact Nat.le_refl _,uh Hb1⟩
 case round =>
   clear Hb1 Hs1
   obtain⟨k,f,O,rfl,hk,hOf,hem,hSt,hO,hb⟩:=hrel
   have hsz:=hb.size
   have hbg:=bgAt_below (uh Hbg) hb
   have hpre:∀ i,i≤k→emptyB G.nk (nullF G) (row.take i)=true:=fun i hi=>emptyB_iff.2 (fun x hx=>emptyB_iff.1 hem x ((List.take_subset_take_left row hi) hx))
   have hall:∀ i,i<k→(G.nk:Int)≤row.getD i 0:=fun i hi=>(emptyB_iff.1 hem _ (by
     rw[List.getD_eq_getElem?_getD,List.getElem?_eq_getElem (by omega)]
     exact List.mem_take_iff_getElem.2 ⟨i,by omega,rfl⟩)).1
   by_cases hlt:k<row.length
   · have hlt':(k:Int)<row.length:=by omega
     obtain⟨b,off,rfl,hbl,hc⟩:=nrow_at (nrow_kept hb (uh Hrow)) hlt
     have hxk:=uh Hx _ (mem_getD hlt)
     unfold Gm.nk Gm.nr at hxk
     have c0:=(hb.cell (p:=⟨gb,0,none⟩) hgb).trans (uh Hc0)
     have b0:wr.cell? ⟨bb,0,none⟩=some (.pointer (some ⟨gb,0,none⟩)):=by unfold World.cell?;rw[hbg.bx];rfl
     have b1:wr.cell? ⟨bb,1,none⟩=some (.slice (some ⟨nb,0,none⟩) G.rules.length G.rules.length):=by unfold World.cell?;rw[hbg.bx];rfl
     have b2:wr.cell? ⟨bb,2,none⟩=some (.slice (some ⟨sb,0,none⟩) G.rules.length sc):=by unfold World.cell?;rw[hbg.bx];rfl
     have HR:=hide (rule_any gb (row.getD k 0) G.kinds.length ka kc hk3 (by omega) wr c0)
     by_cases hr:(G.kinds.length:Int)≤row.getD k 0
     · rw[if_pos hr,decide_eq_true hr] at HR
       obtain⟨y,hy⟩:∃ y:Nat,row.getD k 0 - G.kinds.length=(y:Int):=⟨(row.getD k 0 - G.kinds.length).toNat,by omega⟩
       have hyn:y<G.rules.length:=by omega
       have hyn':(y:Int)<G.rules.length:=by omega
       have ey:(row.getD k 0 - G.nk).toNat=y:=by show (row.getD k 0 - (G.kinds.length:Nat)).toNat=y;omega
       rw[hy] at HR
       obtain⟨OO,rep,C,hsV0,hC⟩:=(uh Hbg).st
       have hsV:=sets_below hsV0 hb
       have sy:=(sets_cell hsV hyn).1
       have hgy:∀ m,C (rep y) m=true↔0≤m∧Fst G (row.getD k 0 - G.nk).toNat m.toNat:=by rw[ey];exact hC y hyn
       have hOf2:=of_rule hOf hlt hr hgy
       have HJ:=hide (join_n w.heap.size (A (rep y)) O (OO (rep y)) f (C (rep y)) wr hSt (hsV.set _ (hsV.rp y hyn)) (fun q hq ho=>by have h1:=setN_lt (hsV0.set _ (hsV0.rp y hyn)) hq;have h2:=hO q ho;omega))
       have ny:=hbg.nu.cell hyn
       have hnl:=hbg.nu.lt
       obtain⟨ns,hns⟩:=rowIs_ty hbg.nu
       have Hkp:Hid (∀ V,Fr O wr V→V.cell? ⟨bb,1,none⟩=some (.slice (some ⟨nb,0,none⟩) G.rules.length G.rules.length)∧V.cell? ⟨nb,y,none⟩=some (.bool (nullF G y))):=hide (fun V hV=>by
         have e1:V.heap[bb]? = wr.heap[bb]?:=hV.2.1 bb (Array.getElem?_eq_some_iff.1 hbg.bx).1 (fun ho=>isSet_not hbg.bx (by decide) (by decide) (hSt.ty _ ho))
         have e2:V.heap[nb]? = wr.heap[nb]?:=hV.2.1 nb hnl (fun ho=>isSet_not hns (by decide) (by decide) (hSt.ty _ ho))
         exact⟨(World.cell?_of_block e1).trans b1,(World.cell?_of_block e2).trans ny⟩)
       have Hnn:=hide (fun(hn:nullF G y=true)=>empty_next hlt hem hr (by rw[ey];exact hn))
       have Hstp:=hide (fun(hn:nullF G y=false)=>of_stop hOf2 (fun i hi=>hpre i (by omega)) (fun i hi=>by
         by_cases e:i=k
         · subst e;exact hr
         · exact hall i (by omega)) (fun i h1 h2=>empty_stop hlt (by omega) (.inr (by rw[ey];exact hn))))
       have Hemf:=hide (fun(hn:nullF G y=false)=>(show emptyB G.nk (nullF G) row=false by
         have h1:=empty_stop (G:=G) (row:=row) (i:=row.length) hlt hlt (.inr (by rw[ey];exact hn))
         rwa [List.take_length] at h1))
       have HOf2:=hide hOf2;have Hb:=hide hb;have HO:=hide hO
       clear hOf hem hSt hbg hsV hsV0 hC hgy hOf2 ny hns hnl hpre hall ey hb hO
       generalize hxe:row.getD k 0=x at *
       generalize A (rep y)=Ay at *
       generalize orF f (C (rep y))=f2 at *
       go_wp2_with fail
       refine(uh HR).mono ?_
       rintro e w9 ⟨rfl,rfl⟩
       go_wp2_with fail
       refine(uh HJ).mono ?_
       rintro e V5 ⟨⟨c5,rfl⟩,hf5,O2,hs5,hO2⟩
       obtain⟨b15,ny5⟩:=uh Hkp V5 hf5
       have Hs5:=hide hs5
       have HO5:=hide (show ∀ q,O2 q→w.heap.size≤q from fun q hq=>(hO2 q hq).elim (uh HO q) (fun h=>by omega))
       have Hb5:=hide ((uh Hb).trans (fr_below hf5 hsz (uh HO)))
       clear hs5 hf5 hO2 b1 b2 sy HJ HR c0 b0 hc Hkp
       cases hnu:nullF G y with
       | true =>
         rw[hnu] at ny5
         have Hem2:=hide (uh Hnn hnu)
         clear Hnn Hstp Hemf
         go_wp2
         go_roundw
         case rel=>exact⟨k+1,f2,O2,by go_num,by omega,uh HOf2,uh Hem2,uh Hs5,uh HO5,uh Hb5⟩
         case measure=>simp[intOf];omega
       | false =>
         rw[hnu] at ny5
         have Hfin:=hide (uh Hstp hnu)
         have Hemf2:=hide (uh Hemf hnu)
         clear Hnn Hstp Hemf
         go_wp2
         refine bodyPost_ret (v:=.tuple #[.pointer (some ⟨w.heap.size,0,none⟩),.bool false]) ?zz8 rfl ⟨_,_,f2,by rw[uh Hemf2],uh Hs5,uh Hfin,uh Hb5⟩
         case zz8=>simp[results,Tryz.results46,go_sem]
     · rw[if_neg hr,decide_eq_false hr] at HR
       have hx':row.getD k 0<(G.nk:Int):=by show _<((G.kinds.length:Nat):Int);omega
       have Hfin:=hide (of_kind hOf hlt hem (by omega) hx')
       have Hemf:Hid (emptyB G.nk (nullF G) row=false):=hide (by
         have h1:=empty_stop (G:=G) (row:=row) (i:=row.length) hlt hlt (.inl hx')
         rwa [List.take_length] at h1)
       have hal:Below wr.heap.size wr (wr.alloc (.cells #[.int .i64 (row.getD k 0)] 3)):=(Below.refl _ _).alloc (Nat.le_refl _) _
       have hnw:(wr.alloc (.cells #[.int .i64 (row.getD k 0)] 3)).heap[wr.heap.size]? = some (.cells #[.int .i64 (row.getD k 0)] 3 (0,0)):=Go.Deep.blk_alloc_new _ _
       have HAd:=hide (add_n w.heap.size O f (row.getD k 0) (by omega) ⟨wr.heap.size,0,none⟩ 1 _ (setN_below hSt hal) rfl (Array.getElem?_eq_some_iff.1 hnw).1 (by unfold World.cell?;rw[hnw];rfl) (fun ho=>by have:=setN_lt hSt ho;have this:wr.heap.size<wr.heap.size:=this;omega))
       have HO:=hide hO
       have Hb2:=hide (hb.trans (below_le hal hsz))
       have hszA:w.heap.size≤(wr.alloc (.cells #[.int .i64 (row.getD k 0)] 3)).heap.size:=by have:=hal.size;omega
       clear hOf hem hSt hbg hpre hall hal hnw hb hO
       generalize hxe:row.getD k 0=x at *
       generalize addF f x=f2 at *
       go_wp2_with fail
       refine(uh HR).mono ?_
       rintro e w9 ⟨rfl,rfl⟩
       go_wp2_with fail
       refine(uh HAd).mono ?_
       rintro e V5 ⟨⟨c5,rfl⟩,hf5,O2,hs5,-⟩
       have Hs5:=hide hs5
       have Hb5:=hide ((uh Hb2).trans (fr_below hf5 hszA (uh HO)))
       clear hs5 hf5
       go_wp2
       refine bodyPost_ret (v:=.tuple #[.pointer (some ⟨w.heap.size,0,none⟩),.bool false]) ?zz7 rfl ⟨_,_,f2,by rw[uh Hemf],uh Hs5,uh Hfin,uh Hb5⟩
       case zz7=>simp[results,Tryz.results46,go_sem]
   · obtain rfl:k=row.length:=by omega
     have Hfin:=hide (of_stop hOf (fun i hi=>hpre i (by omega)) hall (fun i h1 h2=>by omega))
     rw[List.take_length] at hem
     have HSt:=hide hSt;have Hb:=hide hb;have Hem:=hide hem
     clear hOf hem hSt hb hbg hpre hall
     go_wp2
     refine bodyPost_ret (v:=.tuple #[.pointer (some ⟨w.heap.size,0,none⟩),.bool true]) ?zz9 rfl ⟨_,_,f,by rw[uh Hem],uh HSt,uh Hfin,uh Hb⟩
     case zz9=>simp[results,Tryz.results46,go_sem]
end Go.Proofs.YtagohbpbgjelaaaGreatDoor

namespace Go.Proofs.YtagohbpbgjelaaaGreatDoor
open Go.RowKit

structure RhI (G:Gm) (ok:Nat→Bool) (okP:Pd→Bool) (w:World) (bb lb base:Nat) (fs:List Nat) (a m g cap:Nat) (W:World):Prop where
 mrk:W.rowIs bb 4 G.rules.length (fun r=>.bool (decide (r ∈ fs.take m)))
 lf:LeftAt W lb G.rules.length (fun i=>decide (i<G.rules.length) && !decide (i ∈ fs))
 fd:W.ownsRow base 3 1 (.slice (some ⟨g,0,none⟩) (castL fs).length cap) (castL fs).length (vints (castL fs))
 rc:RcI G ok okP fs a
 bl:Below w.heap.size w W
 le:base≤W.heap.size
set_option maxHeartbeats 1000000 in
set_option maxRecDepth 100000 in
theorem reached_any (G : Gm) (hG : GOk G) (ka pa ra qa : Option Addr) (kc pc rc qc gb ob ub : Nat) (M : Nat) (F : Nat) (cap : Array Value) (ok : Nat → Bool) (okP : Pd → Bool) (hok : ∀ q, q < G.prods.length → ok q = okP (G.prods.getD q pd0)) (hcf : ∀ args W, Sem.run Tryz.prog (callFunc F args) W = .ok (.enter F args) W) (w : World) (hM : M ≤ w.heap.size) (hg : GrAt M w G ka kc pa pc ra rc qa qc gb ob ub)
   (hF:∀ W q,q<G.prods.length→Below w.heap.size w W→Calls Tryz.prog F (#[.int .i64 (q:Nat)] ++ cap) W fun e W'=>e=.returned (.bool (ok q))∧Below W.heap.size W W') :
   Calls Tryz.prog 32 #[.pointer (some ⟨gb,0,none⟩),.func (.func F) #[] cap] w fun e w'=>∃ b:Nat,e=.returned (.slice (some ⟨b,0,none⟩) G.rules.length G.rules.length)∧w'.rowIs b 4 G.rules.length (fun r=>.bool (rchF G okP r))∧w.heap.size≤b∧Below w.heap.size w w':=by
 obtain⟨i3,hi3,hz30,hz31,hz32⟩:=info_parts info3
 have hr2:=hG.r2
 unfold Gm.nr at hr2
 have hs0:=hG.s0;have hs1:=hG.s1
 unfold Gm.nr at hs1
 obtain⟨st,hst⟩:∃ st:Nat,G.start=st:=⟨G.start.toNat,by omega⟩
 have c2:w.cell? ⟨gb,2,none⟩=some (.slice ra G.rules.length rc):=by unfold World.cell?;rw[hg.box];rfl
 have c4:w.cell? ⟨gb,4,none⟩=some (.int .i64 (st:Int)):=by unfold World.cell?;rw[hg.box,← hst];rfl
 have hgl:gb<w.heap.size:=by have:=hg.lt;omega
 have hmk:=fun w=>run_make_row' (P:=Tryz.prog) 28 4 (.bool false) 1 Tryz.underlying28 info4 rfl .i64 .i64 G.rules.length (by omega) (by omega) w
 have hrs:=rc_start hG ok okP
 have est:G.start.toNat=st:=by omega
 rw[est] at hrs
 have Hg:=hide hg;have HF:=hide hF;have Hrs:=hide hrs;have Hok:=hide hok
 clear hg hF hrs hok
 go_enter Tryz.func32,Tryz.ntmps32
 go_wp2_with fail
 have hz1:=World.rowIs_made w (.bool false) G.rules.length 4
 have hb1:Below w.heap.size w (w.alloc (Obj.cells (madeCells #[Value.bool false] G.rules.length) 4)):=(Below.refl _ _).alloc (Nat.le_refl _) _
 generalize hw1:w.alloc (Obj.cells (madeCells #[Value.bool false] G.rules.length) 4)=w1 at *
 have hsz1:w1.heap.size=w.heap.size+1:=by rw[← hw1];simp
 clear hw1
 refine(allLeft_any gb G.rules.length ra rc hr2 w1 (by omega) ((hb1.cell (by simpa using hgl)).trans c2)).mono ?_
 rintro e w2 ⟨lb,rfl,hlf2,hlb1,hlb2,hb2⟩
 have hs2:=hb2.size
 have hb12:=hb1.trans (below_le hb2 (by omega))
 have hz2:=hz1.of_block (hb2.block w.heap.size (by omega))
 have c4':=(hb12.cell (p:=⟨gb,4,none⟩) (by simpa using hgl)).trans c4
 have HT:=hide (take_any lb G.rules.length st _ (by omega) w2 hlf2)
 clear hlf2 hz1 c2 c4
 have Hb12:=hide hb12;have Hz2:=hide hz2
 clear hb12 hz2 hb1 hb2
 go_wp2_with fail
 refine(uh HT).mono ?_
 rintro e w3 ⟨rfl,hlf3,hf3⟩
 have hs3:w2.heap.size≤w3.heap.size:=hf3.1
 have hb3:Below w.heap.size w w3:=(uh Hb12).trans (fr_below hf3 (by omega) (fun k hk=>by omega))
 have hz3:=(uh Hz2).of_block (hf3.2.1 w.heap.size (by omega) (by omega))
 have c4'':=(hb3.cell (p:=⟨gb,4,none⟩) (by simpa using hgl)).trans ((uh Hb12).cell (p:=⟨gb,4,none⟩) (by simpa using hgl)▸c4')
 have HR0:Hid (RhI G ok okP w w.heap.size lb w3.heap.size [st] 0 0 w3.heap.size 1 (w3.alloc (.cells #[.int .i64 (st:Int)] 3))):=hide (by
   refine⟨?_,?_,?_,uh Hrs,hb3.alloc hb3.size _,by simp⟩
   · refine((hz3.of_block (w':=w3.alloc _) ?_)).congr (fun r _=>by simp)
     exact((Below.refl w3.heap.size w3).alloc (Nat.le_refl _) _).block _ (by omega)
   · refine left_blk (W:=w3) ?_ (((Below.refl w3.heap.size w3).alloc (Nat.le_refl _) _).block _ (by omega))
     obtain⟨D,h1,h2⟩:=hlf3
     exact⟨D,h1,fun i=>by rw[h2 i];by_cases e:i=st <;> simp[e]⟩
   · have:=World.ownsRow_lit (base:=w3.heap.size) (e:=3) (size:=1) w3 #[.int .i64 (st:Int)] 1 (Nat.le_refl _) (by unfold maxLen;omega) rfl
     simpa [castL,vints] using this)
 clear hlf3 hf3 hz3 hb3 HT Hb12 Hz2
 have hlb3:lb<w3.heap.size:=by omega
 go_wp2
 go_loopw [7,8] (fun u x W=>∃ (fs:List Nat) (a g cp:Nat),u=.slice (some ⟨g,0,none⟩) (castL fs).length cp∧x=.int .i64 a∧RhI G ok okP w w.heap.size lb w3.heap.size fs a a g cp W) (fun _ x _=>G.rules.length - (intOf x).toNat)
 case atStart=>exact⟨[st],0,w3.heap.size,1,rfl,rfl,uh HR0⟩
 case round =>
   clear HR0 c4'' c4'
   obtain⟨fs,a,g,cp,rfl,rfl,hR⟩:=hrel
   have hlen:=rc_len hR.rc
   have hcl:=castL_len fs
   by_cases hlt:a<fs.length
   · have hlt' : (a : Int) < (castL fs).length := by omega
     obtain⟨_,_,he,hgl2,hca,hcf2⟩:=own_at hR.fd (i:=a) (by omega)
     cases he
     rw[castL_get hlt] at hca
     have hrm:fs.getD a 0 ∈ fs:=by rw[List.getD_eq_getElem?_getD,List.getElem?_eq_getElem hlt];exact List.getElem_mem hlt
     have hrl:=hR.rc.lt _ hrm
     have hrl':((fs.getD a 0:Nat):Int)<G.rules.length:=by omega
     have hmc:=hR.mrk.cell hrl
     have hmf:=hR.mrk.frozen (fs.getD a 0)
     have hset:Fr (· = w.heap.size) wr (wr.setCell ⟨w.heap.size,fs.getD a 0,none⟩ (.bool true)):=fr_set (fr_refl _ _) (by rfl) _
     have hR1:RhI G ok okP w w.heap.size lb w3.heap.size fs a (a+1) g cp (wr.setCell ⟨w.heap.size,fs.getD a 0,none⟩ (.bool true)):=by
       have hg3:=(hR.fd.lt g rfl).1
       have hle:=hR.le
       refine⟨(hR.mrk.set (fs.getD a 0) _).congr (fun r _=>?_),left_blk hR.lf (hset.2.1 lb (by omega) (by omega)),own_blk hR.fd (fun k hk=>hset.2.1 k (hR.fd.lt k hk).2 (by have:=(hR.fd.lt k hk).1;omega)),hR.rc,hR.bl.trans (fr_below hset hR.bl.size (fun k hk=>by omega)),by have:=hset.1;omega⟩
       have e:fs.take (a+1)=fs.take a ++ [fs.getD a 0]:=by rw[List.take_add_one,List.getD_eq_getElem?_getD,List.getElem?_eq_getElem hlt];rfl
       rw[e]
       by_cases e2:r=fs.getD a 0
       · subst e2;simp
       · rw[if_neg e2];congr 1;rw[decide_eq_decide];simp only[List.mem_append,List.mem_singleton];exact⟨Or.inl,fun h=>h.resolve_right e2⟩
     have HN:Hid _:=hide (next_any G hG ka pa ra qa kc pc rc qc gb ob ub M F cap ok hcf (fs.getD a 0) hrl (wr.setCell ⟨w.heap.size,fs.getD a 0,none⟩ (.bool true)) (by have:=hR1.bl.size;omega) (gr_kept (uh Hg) (below_le hR1.bl hM)) (fun W q hq hb=>uh HF W q hq (hR1.bl.trans (below_le hb hR1.bl.size))))
     have hrch:=hR1.rc.snd _ hrm
     have Hnx:=hide (fun y hy=>rc_reach (uh Hok) hG hrch (y:=y) hy)
     have hgl3:g<(wr.setCell ⟨w.heap.size,fs.getD a 0,none⟩ (.bool true)).heap.size:=(hR1.fd.lt g rfl).2
     have HR1:=hide hR1
     have hgb3:w3.heap.size≤g:=(hR.fd.lt g rfl).1
     have hrd:=hide (show (wr.setCell ⟨w.heap.size,fs.getD a 0,none⟩ (.bool true)).cell? ⟨g,a,none⟩=some (.int .i64 (fs.getD a 0:Nat)) from(World.cell?_of_block (hset.2.1 g hgl2 (by omega))).trans hca)
     clear hR hR1 hset hrch
     generalize hrr:fs.getD a 0=rr at *
     go_wp2_with fail
     generalize wr.setCell ⟨w.heap.size,rr,none⟩ (.bool true)=W1 at *
     refine(uh HN).mono ?_
     rintro e W5 ⟨v5,rfl,how5,hb5⟩
     obtain⟨va,vc,rfl⟩:=own_form how5
     have hs5:=hb5.size
     have hR1:=uh HR1
     have hs1w:=hR1.le
     have hl1:=left_lt hR1.lf
     have hm1:=hR1.mrk.lt
     have hR5:RhI G ok okP w w.heap.size lb w3.heap.size fs a (a+1) g cp W5:=⟨hR1.mrk.of_block (hb5.block _ hm1),left_blk hR1.lf (hb5.block _ hl1),own_blk hR1.fd (fun k hk=>hb5.block k (hR1.fd.lt k hk).2),hR1.rc,hR1.bl.trans (below_le hb5 hR1.bl.size),by omega⟩
     have hln:(nxtL G ok (ownN G rr)).length≤262144:=by
       have h1:=nxtL_len G hG ok (ownN G rr) (fun q hq=>ownN_mem hq)
       have h2:=ownN_len G rr
       have h3:=hG.ps
       omega
     have HR5:=hide hR5;have How5:=hide how5
     clear hR5 hR1 how5 hb5 HR1 HN hca hcf2 hmc hmf hrd
     generalize hL:nxtL G ok (ownN G rr)=L at *
     go_wp2
     go_loopw [7,53] (fun u x W=>∃ (fs':List Nat) (j g' cp':Nat),u=.slice (some ⟨g',0,none⟩) (castL fs').length cp'∧x=.int .i64 j∧j≤L.length∧RhI G ok okP w w.heap.size lb w3.heap.size fs' a (a+1) g' cp' W∧(∃ t,fs'=fs ++ t)∧(∀ i,i<j→(L.getD i 0).toNat ∈ fs')∧W.ownsRow W1.heap.size 3 1 (.slice va L.length vc) L.length (vints L)∧(Value.slice va L.length vc).ownBlock≠some g') (fun _ x _=>L.length - (intOf x).toNat)
     case atStart=>exact⟨fs,0,g,cp,by rw[hcl],rfl,Nat.zero_le _,uh HR5,⟨[],by simp⟩,fun i hi=>by omega,uh How5,fun e=>by have:=((uh How5).lt g e).1;omega⟩
     case round =>
       clear HR5 How5
       obtain⟨fs',j,g',cp',rfl,rfl,hj,hR,hpre,hin,hown,hne⟩:=hrel
       by_cases hjl:j<L.length
       · have hjl':(j:Int)<L.length:=by omega
         obtain⟨_,_,he,hglL,hcL,-⟩:=own_at hown hjl
         cases he
         have hym:L.getD j 0 ∈ L:=by rw[List.getD_eq_getElem?_getD,List.getElem?_eq_getElem hjl];exact List.getElem_mem hjl
         obtain⟨hyr,hy0,hyl⟩:=uh Hnx _ hym
         obtain⟨y,hy⟩:∃ y:Nat,L.getD j 0=y:=⟨(L.getD j 0).toNat,by omega⟩
         have hin':∀ F:List Nat,(∃ t,F=fs' ++ t)→y ∈ F→∀ i,i<j+1→(L.getD i 0).toNat ∈ F:=fun F ⟨t,ht⟩ hyF i hi=>by
           by_cases e:i=j
           · subst e;rw[hy];simpa using hyF
           · rw[ht];exact List.mem_append_left _ (hin i (by omega))
         rw[hy] at hcL hyr hyl
         simp only[Int.toNat_natCast] at hyr hyl
         have HT:=hide (take_any lb G.rules.length y _ (by omega) wr hR.lf)
         have hfl:=rc_len hR.rc
         have hcl':=hide (castL_len fs')
         have HR:=hide hR;have Hpre:=hide hpre;have Hin:=hide hin';have Hown:=hide hown
         clear hR hpre hin hin' hown
         go_wp2_with fail
         refine(uh HT).mono ?_
         rintro e w6 ⟨rfl,hlf6,hf6⟩
         have hR:=uh HR
         have hgg:=hR.fd.lt g' rfl
         have hmm:=hR.mrk.lt
         have hs6:wr.heap.size≤w6.heap.size:=hf6.1
         have hmk6:=hR.mrk.of_block (hf6.2.1 _ hmm (by omega))
         have hfd6:=own_blk hR.fd (fun k hk=>hf6.2.1 k (hR.fd.lt k hk).2 (by have:=(hR.fd.lt k hk).1;omega))
         have hb6:=hR.bl.trans (fr_below hf6 hR.bl.size (fun k hk=>by omega))
         have ho6:=own_blk (uh Hown) (fun k hk=>hf6.2.1 k ((uh Hown).lt k hk).2 (by have:=((uh Hown).lt k hk).1;omega))
         have hle:=hR.le
         by_cases hyf:y ∈ fs'
         · have e1:(decide (y<G.rules.length) && !decide (y ∈ fs'))=false:=by simp[hyf]
           rw[e1]
           have HR6:Hid (RhI G ok okP w w.heap.size lb w3.heap.size fs' a (a+1) g' cp' w6):=hide (by
             refine⟨hmk6,?_,hfd6,hR.rc,hb6,by omega⟩
             obtain⟨D,h1,h2⟩:=hlf6
             exact⟨D,h1,fun i=>by rw[h2 i];by_cases e:i=y <;> simp[e,hyf]⟩)
           have Ho6:=hide ho6
           clear hlf6 hf6 hR hmk6 hfd6 hb6 ho6 HR
           go_wp2
           go_roundw
           case rel=>exact⟨fs',j+1,g',cp',by rw[uh hcl'],by go_num,by omega,uh HR6,uh Hpre,uh Hin fs' ⟨[],by simp⟩ hyf,uh Ho6,hne⟩
           case measure=>simp[intOf];omega
         · have e1:(decide (y<G.rules.length) && !decide (y ∈ fs'))=true:=by simp[hyf,hyl]
           rw[e1]
           have HA:=hide (And.intro hmk6 (And.intro hlf6 (And.intro hb6 (And.intro ho6 hR.rc))))
           have Hfd6:=hide hfd6
           clear hlf6 hf6 hR hmk6 hfd6 hb6 ho6 HR
           have hcl2:=uh hcl'
           rw[hcl2] at Hfd6
           go_wp2_with (at_builtin;refine wpList_append_lies _ rfl _ _ 27 rfl w3.heap.size 3 i3 (.int .i64 0) 1 8 Tryz.underlying27 hi3 hz30 hz31 hz32 rfl (by decide) _ _ _ rfl ((uh Hfd6).alloc _) ⟨w6.heap.size,0,none⟩ 1 1 [.int .i64 (y:Int)] rfl rfl (new1 _ _ _) ?zc2 (by decide) ?zc3 ?zc4 ?zc5 (w6.heap.size+1) (by simp) ?_)
           case zc2=>intro u hu;simp at hu;rcases hu with rfl;rfl
           case zc3=>unfold maxLen;omega
           case zc4=>omega
           case zc5=>simp;omega
           intro g7 cap7 W7 hown7 hgrow hg7 hl7
           obtain⟨hmk6,hlf6,hb6,ho6,hrc⟩:=uh HA
           have hal:Below w6.heap.size w6 (w6.alloc (.cells #[.int .i64 (y:Int)] 3)):=(Below.refl _ _).alloc (Nat.le_refl _) _
           have hkp:∀ k,k<w6.heap.size→k≠g'→W7.heap[k]? = w6.heap[k]?:=fun k hk hne'=>(hgrow.block k (by have:=hal.size;omega) (fun e=>hne' (by simpa [Value.ownBlock,eq_comm] using e))).trans (hal.block k hk)
           have hs7:w6.heap.size≤W7.heap.size:=Nat.le_trans hal.size hgrow.size
           have HR7:Hid (RhI G ok okP w w.heap.size lb w3.heap.size (fs' ++ [y]) a (a+1) g7 cap7 W7):=hide (by
             refine⟨(hmk6.of_block (hkp _ (by omega) (by omega))).congr (fun r _=>?_),?_,?_,rc_push hrc hyl hyr hyf,?_,by omega⟩
             · have hpl:a+1≤fs'.length:=by obtain⟨t,ht⟩:=uh Hpre;rw[ht,List.length_append];omega
               rw[List.take_append_of_le_length hpl]
             · refine left_blk (W:=w6) ?_ (hkp _ (by omega) (by omega))
               obtain⟨D,h1,h2⟩:=hlf6
               exact⟨D,h1,fun i=>by rw[h2 i];by_cases e:i=y <;> simp[e,hyl]⟩
             · have e2:castL (fs' ++ [y])=castL fs' ++ [(y:Int)]:=by simp[castL]
               rw[castL_len,List.length_append,e2,← vints_snoc]
               exact hown7
             · have hga:∀ k,(Value.slice (some ⟨g',0,none⟩) fs'.length cp').ownBlock=some k→w.heap.size≤k:=fun k hk=>by
                 have e3:g'=k:=by simpa [Value.ownBlock] using hk
                 omega
               exact(hb6.alloc hb6.size _).grown hgrow (Nat.le_trans hb6.size hal.size) hga)
           have Ho7:=hide (own_blk ho6 (fun k hk=>hkp k (ho6.lt k hk).2 (fun e=>hne (by rw[← e];exact hk))))
           have Hne7:Hid (∀ k,some k=some g7→(Value.slice (some ⟨_,0,none⟩) L.length _).ownBlock≠some k):=hide (fun k hk e=>by
             cases hk
             rcases hg7 with h | h
             · exact hne (e.trans h.symm)
             · have:=(ho6.lt g7 e).2
               omega)
           clear hown7 hgrow hmk6 hlf6 hb6 ho6 hrc HA hkp
           go_wp2
           go_roundw
           case rel=>exact⟨fs' ++ [y],j+1,g7,cap7,by rw[castL_len,List.length_append];rfl,by go_num,by omega,uh HR7,(uh Hpre).elim fun t ht=>⟨t ++ [y],by rw[ht,List.append_assoc]⟩,uh Hin _ ⟨[y],rfl⟩ (by simp),uh Ho7,uh Hne7 _ rfl⟩
           case measure=>simp[intOf];omega
       · obtain rfl:j=L.length:=by omega
         have HR:=hide hR;have Hpre:=hide hpre;have Hin:=hide hin
         clear hR hpre hin hown
         go_wp2
         go_roundw
         case rel =>
           obtain⟨t,ht⟩:=uh Hpre
           have hR:=uh HR
           refine⟨fs',a+1,g',cp',rfl,by go_num,hR.mrk,hR.lf,hR.fd,rc_next hR.rc (by rw[ht,List.length_append];omega) (fun y hy=>?_),hR.bl,hR.le⟩
           have e1:fs'.getD a 0=rr:=by rw[ht,List.getD_eq_getElem?_getD,List.getElem?_append_left hlt,← List.getD_eq_getElem?_getD];exact hrr
           rw[e1,hL] at hy
           obtain⟨i,hi,e2⟩:=List.getElem_of_mem hy
           have:=uh Hin i hi
           rw[List.getD_eq_getElem?_getD,List.getElem?_eq_getElem hi] at this
           simpa [e2] using this
         case measure=>simp[intOf];omega
   · obtain rfl:a=fs.length:=by have:=hR.rc.le;omega
     have Hend:=hide (rc_end (uh Hok) hR.rc)
     have HR:=hide hR
     clear hR
     go_wp2
     go_ret
     refine⟨w.heap.size,rfl,(uh HR).mrk.congr (fun r _=>?_),Nat.le_refl _,(uh HR).bl⟩
     rw[List.take_of_length_le (Nat.le_refl _),← uh Hend]
end Go.Proofs.YtagohbpbgjelaaaGreatDoor

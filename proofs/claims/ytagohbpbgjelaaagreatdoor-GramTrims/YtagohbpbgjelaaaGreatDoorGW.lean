/- The code's newSets: a row of empty sets. -/
import Derived.Test.YtagohbpbgjelaaaGreatDoorSP
import Derived.Test.YtagohbpbgjelaaaGreatDoorGJ
namespace Go.Proofs.YtagohbpbgjelaaaGreatDoor
open Go.RowKit

theorem info75:(Tryz.prog.info? 75).map (fun i=>(i.zero,i.size,i.bytes))=some (some (.pointer none),1,8):=by kernel_rfl
def ptrL (l:List Nat):List Value:=l.map fun a=>.pointer (some ⟨a,0,none⟩)
structure NewS (B:Nat) (W:World) (u:Value) (l:List Nat):Prop where
 row:W.ownsRow B 75 1 u l.length (ptrL l)
 set:∀ a,a ∈ l→SetN W a (· = a) (fun _=>false)
 lo:∀ a,a ∈ l→B≤a
 nd:l.Nodup
theorem zlm {B:Nat} {W W':World} {u:Value} {l:List Nat} (h:NewS B W u l) (hb:Below W.heap.size W W'):NewS B W' u l:=⟨zd9 h.row hb,fun a ha=>zbK (h.set a ha) hb,h.lo,h.nd⟩
theorem zo6 {B:Nat} {W:World} {g c:Nat} {l:List Nat} (h:NewS B W (.slice (some ⟨g,0,none⟩) l.length c) l):SetsV B W g l.length (fun r=>l.getD r 0) (fun r k=>k=l.getD r 0) id (fun _ _=>false):=by
 obtain⟨cs,hcs⟩:=zcJ h.row rfl
 have hm:∀ r,r<l.length→l.getD r 0 ∈ l:=fun r hr=>by rw[List.getD_eq_getElem?_getD,List.getElem?_eq_getElem hr];exact List.getElem_mem hr
 refine⟨⟨cs,hcs,fun r hr=>?_⟩,(h.row.lt g rfl).1,fun r hr=>hr,fun r hr=>h.set _ (hm r hr),fun r hr k hk=>by rw[hk];exact h.lo _ (hm r hr),fun r s hr hs hrs k h1 h2=>?_⟩
 ·have h1:=h.row.cellAt r (by omega)
  unfold World.cell? at h1
  rw[hcs] at h1
  simp only[Option.isSome_none,Bool.false_eq_true,if_false] at h1
  rw[h1]
  unfold ptrL
  show _=some (Value.pointer (some ⟨l.getD r 0,0,none⟩))
  rw[List.getElem?_map,List.getElem?_eq_getElem hr,List.getD_eq_getElem?_getD,List.getElem?_eq_getElem hr]
  rfl
 ·rw[h1] at h2
  rw[List.getD_eq_getElem?_getD,List.getElem?_eq_getElem hr,List.getD_eq_getElem?_getD,List.getElem?_eq_getElem hs] at h2
  exact hrs ((List.getElem_inj h.nd).1 (by simpa using h2))
def zjX (n:Nat) (w:World) (e:Ending) (w':World):Prop:=∃ sb sc A OO,e=.returned (.slice (some ⟨sb,0,none⟩) n sc)∧SetsV w.heap.size w' sb n A OO id (fun _ _=>false)∧Below w.heap.size w w'
set_option maxHeartbeats 2000000 in
set_option maxRecDepth 100000 in
theorem zgd (n:Nat) (hn:1≤n∧n≤2048) (w:World) :
 Calls Tryz.prog 77 #[.int .i64 (n:Nat)] w fun e w'=>zjX n w e w':=by
 obtain⟨i7,hi7,hz0,hz1,hz2⟩:=zao info75
 go_enter Tryz.func77,Tryz.ntmps77
 go_wp2
 go_loopw [3,5] (fun u x W=>∃ l:List Nat,x=.int .i64 (l.length:Nat)∧l.length≤n∧NewS w.heap.size W u l∧Below w.heap.size w W) (fun _ x _=>n - (intOf x).toNat)
 case atStart=>exact⟨[],rfl,Nat.zero_le _,⟨World.ownsRow_nil _ _ _ _,by simp,by simp,by simp⟩,Below.refl _ _⟩
 case round =>
  obtain⟨l,rfl,hl,hN,hb⟩:=hrel
  obtain⟨ua,uc,rfl⟩:=zad hN.row
  have hsz:=hb.size
  by_cases hlt:l.length<n
  ·have hlt':(l.length:Int)<n:=by omega
   have HC:=zaa (zcB wr)
   have HN:=zaa hN;have Hb:=zaa hb
   clear hN hb
   go_wp2_with fail
   refine(uh HC).mono ?_
   rintro e w2 ⟨rfl,hb2,hlt2,hset⟩
   have hN2:=zlm (uh HN) hb2
   have hs2:=hb2.size
   have HN2:=zaa hN2;have Hset:=zaa hset
   have Hb2:=zaa ((uh Hb).trans (zab hb2 hsz))
   clear hN2 hset hb2
   go_wp2_with (at_builtin;refine wpList_append_own _ rfl _ _ 62 rfl w.heap.size 75 i7 (.pointer none) 1 8 Tryz.underlying62 hi7 hz0 hz1 hz2 rfl (by decide) _ _ _ rfl ((uh HN2).row.alloc _) ⟨w2.heap.size,0,none⟩ 1 1 [.pointer (some ⟨wr.heap.size,0,none⟩)] rfl rfl (ziC _ _ _) ?zc2 ?zc3 ?zc4 ?zc5 ?_)
   case zc2=>intro u hu;simp at hu;rcases hu with rfl;rfl
   case zc3=>unfold maxLen;omega
   case zc4=>omega
   case zc5=>simp;omega
   intro v' W3 hown' hgrow _
   have hal:Below w2.heap.size w2 (w2.alloc (.cells #[.pointer (some ⟨wr.heap.size,0,none⟩)] 75)):=(Below.refl _ _).alloc (Nat.le_refl _) _
   have hrw:=zd9 (uh HN2).row hal
   have hkp:∀ {a:Nat} {O:Nat→Prop} {f:Int→Bool},SetN w2 a O f→SetN W3 a O f:=fun {a O f} h=>by
    have h1:=zbK h hal
    refine zcs (O':=fun k=>(Value.slice ua l.length uc).ownBlock=some k) h1 ⟨hgrow.size,fun k hk ho=>hgrow.block k hk (fun e=>ho e.symm),hgrow.os,hgrow.tape,hgrow.output⟩ (fun k hk ho=>?_)
    obtain⟨cs,hcs⟩:=zcJ hrw ho
    exact zaL hcs (by decide) (by decide) (h1.ty k hk)
   have hnew:wr.heap.size ∉ l:=fun hm=>by have:=zbT ((uh HN).set _ hm) (k:=wr.heap.size) rfl;omega
   have hfin:NewS w.heap.size W3 v' (l ++ [wr.heap.size]):=by
    refine⟨?_,fun a ha=>?_,fun a ha=>?_,?_⟩
    ·rw[List.length_append,show ptrL (l ++ [wr.heap.size])=ptrL l ++ [.pointer (some ⟨wr.heap.size,0,none⟩)] by simp[ptrL]]
     exact hown'
    ·rcases List.mem_append.1 ha with ha | ha
     ·exact hkp ((uh HN2).set a ha)
     ·simp at ha;subst ha;exact hkp (uh Hset)
    ·rcases List.mem_append.1 ha with ha | ha
     ·exact(uh HN2).lo a ha
     ·simp at ha;omega
    ·rw[List.nodup_append]
     exact⟨(uh HN2).nd,by simp,fun a ha b hb e=>by simp at hb;subst hb;subst e;exact hnew ha⟩
   have hbf:=((uh Hb2).alloc (by omega) (.cells #[.pointer (some ⟨wr.heap.size,0,none⟩)] 75)).grown hgrow (by simp;omega) (fun j hj=>((uh HN2).row.lt j hj).1)
   have Hfin:=zaa hfin;have Hbf:=zaa hbf
   clear hown' hgrow hal hrw hkp hnew hfin hbf
   go_wp2
   go_roundw
   case rel=>exact⟨l ++ [wr.heap.size],by rw[List.length_append];rfl,by rw[List.length_append];simp;omega,uh Hfin,uh Hbf⟩
   case measure=>simp[intOf];omega
  ·have hln:l.length=n:=by omega
   have hpos:0<l.length:=by omega
   obtain⟨g,c,hv,-⟩:=Wk.own_pos hN.row hpos
   cases hv
   have Hend:=zaa (zo6 hN)
   have Hb:=zaa hb
   clear hN hb
   rw[hln] at Hend ⊢
   have hnn:¬ ((n:Int)<n):=by omega
   go_wp2
   go_ret
   exact⟨g,uc,_,_,rfl,uh Hend,uh Hb⟩
end Go.Proofs.YtagohbpbgjelaaaGreatDoor

import Derived.Test.YtieciibnajeibaaGreatDoorSP
import Derived.Test.YtieciibnajeibaaGreatDoorGJ
set_option maxHeartbeats 8000000
set_option maxRecDepth 100000
namespace Go.Proofs.YtieciibnajeibaaGreatDoor
open Go.RowKit
theorem info75:(Tryz.prog.info? 110).map (λi=>(i.zero,i.size,i.bytes))=some (some (.pointer none),1,8):=by kernel_rfl
def ptrL(l:List Nat):List Value:=l.map λa=>.pointer (some ⟨a,0,none⟩)
structure NewS (B:Nat) (W:World) (u:Value) (l:List Nat):Prop where
 row:W.ownsRow B 110 1 u l.length (ptrL l)
 set:∀ a,a ∈ l->SetN W a (· = a) (λ_=>false)
 lo:∀ a,a ∈ l->B<=a
 nd:l.Nodup
variable{B:Nat}{W:World}{l:List Nat}
theorem znO{W':World}{u:Value}(h:NewS B W u l)(hb:Below W.heap.size W W'):NewS B W' u l:=⟨zgn h.row hb,λa ha=>zbw (h.set a ha) hb,h.lo,h.nd⟩
theorem zs5{g c:Nat}(h:NewS B W (.slice (some ⟨g,0,none⟩) l.length c) l):SetsV B W g l.length (λr=>l.getD r 0) (λr k=>k=l.getD r 0) id (λ_ _=>false):=by
 obtain⟨cs,hcs⟩:=zcC h.row rfl;have hm:∀ r,r<l.length->l.getD r 0 ∈ l:=λr hr=>by rw[zsE,zsF hr];exact List.getElem_mem hr
 refine⟨⟨cs,hcs,λr hr=>?_⟩,(h.row.lt g rfl).1,λr hr=>hr,λr hr=>h.set _ (hm r hr),λr hr k hk=>by rw[hk];exact h.lo _ (hm r hr),λr s hr hs hrs k h1 h2=>?_⟩
 ·have h1:=h.row.cellAt r (by omega);unfold World.cell? at h1;rw[hcs] at h1;simp only[Option.isSome_none,Bool.false_eq_true,if_false] at h1;rw[h1];unfold ptrL;show _=some (Value.pointer (some ⟨l.getD r 0,0,none⟩));rw[List.getElem?_map,zsF hr,zsE,zsF hr];rfl
 ·rw[h1] at h2;rw[zsE,zsF hr,zsE,zsF hs] at h2;exact hrs ((List.getElem_inj h.nd).1 (by simpa using h2))
def zlZ(n:Nat)(w:World)(e:Ending)(w':World):Prop:=∃ sb sc A OO,e=.returned (.slice (some ⟨sb,0,none⟩) n sc)/\SetsV w.heap.size w' sb n A OO id (λ_ _=>false)/\Below w.heap.size w w'
theorem zgT(n:Nat)(hn:1<=n/\n<=2048)(w:World) :
 Calls Tryz.prog 148 #[.int .i64 (n:Nat)] w λe w'=>zlZ n w e w':=by
 obtain⟨i7,hi7,hz0,hz1,hz2⟩:=zah info75;go_enter Tryz.func148,Tryz.ntmps148;go_wp2
 go_loopw [3,5] (λu x W=>∃ l:List Nat,x=.int .i64 (l.length:Nat)/\l.length<=n/\NewS w.heap.size W u l/\Below w.heap.size w W) (λ_ x _=>n - (intOf x).toNat)
 case atStart=>exact⟨[],rfl,zsK _,⟨World.ownsRow_nil _ _ _ _,by simp,by simp,by simp⟩,zsY _ _⟩
 case round =>
  obtain⟨l,rfl,hl,hN,hb⟩:=hrel;obtain⟨ua,uc,rfl⟩:=zaf hN.row;have hsz:=hb.size;by_cases hlt:l.length<n
  ·have hlt':(l.length:Int)<n:=by omega
   have HC:=zaa (zda wr);have HN:=zaa hN;have Hb:=zaa hb;clear hN hb;go_wp2_with fail;refine(uh HC).mono ?_;rintro e w2 ⟨rfl,hb2,hlt2,hset⟩;have hN2:=znO (uh HN) hb2;have hs2:=hb2.size;have HN2:=zaa hN2;have Hset:=zaa hset;have Hb2:=zaa ((uh Hb).trans (zab hb2 hsz));clear hN2 hset hb2;go_wp2_with (at_builtin;refine wpList_append_own _ rfl _ _ 107 rfl w.heap.size 110 i7 (.pointer none) 1 8 Tryz.underlying107 hi7 hz0 hz1 hz2 rfl (by decide) _ _ _ rfl ((uh HN2).row.alloc _) ⟨w2.heap.size,0,none⟩ 1 1 [.pointer (some ⟨wr.heap.size,0,none⟩)] rfl rfl (zpR _ _ _) ?zc2 ?zc3 ?zc4 ?zc5 ?_)
   case zc2=>intro u hu;simp at hu;rcases hu with rfl;rfl
   case zc3=>unfold maxLen;omega
   case zc4=>omega
   case zc5=>simp;omega
   intro v' W3 hown' hgrow _;have hal:Below w2.heap.size w2 (w2.alloc (.cells #[.pointer (some ⟨wr.heap.size,0,none⟩)] 110)):=(zsY _ _).alloc (zsG _) _;have hrw:=zgn (uh HN2).row hal;have hkp:∀ {a:Nat} {O:Nat->Prop} {f:Int->Bool},SetN w2 a O f->SetN W3 a O f:=fun {a O f} h=>by
    have h1:=zbw h hal;refine zaz (O':=λk=>(Value.slice ua l.length uc).ownBlock=some k) h1 ⟨hgrow.size,λk hk ho=>hgrow.block k hk (λe=>ho e.symm),hgrow.os,hgrow.tape,hgrow.output⟩ (λk hk ho=>?_);obtain⟨cs,hcs⟩:=zcC hrw ho;exact zaq hcs (by decide) (by decide) (h1.ty k hk)
   have hnew:wr.heap.size ∉ l:=λhm=>by have:=zaO ((uh HN).set _ hm) (k:=wr.heap.size) rfl;omega
   have hfin:NewS w.heap.size W3 v' (l ++ [wr.heap.size]):=by
    refine⟨?_,λa ha=>?_,λa ha=>?_,?_⟩
    ·rw[zsI,show ptrL (l ++ [wr.heap.size])=ptrL l ++ [.pointer (some ⟨wr.heap.size,0,none⟩)] by simp[ptrL]];exact hown'
    ·rcases List.mem_append.1 ha with ha | ha
     ·exact hkp ((uh HN2).set a ha)
     ·simp at ha;subst ha;exact hkp (uh Hset)
    ·rcases List.mem_append.1 ha with ha | ha
     ·exact(uh HN2).lo a ha
     ·simp at ha;omega
    ·rw[List.nodup_append];exact⟨(uh HN2).nd,by simp,λa ha b hb e=>by simp at hb;subst hb;subst e;exact hnew ha⟩
   have hbf:=((uh Hb2).alloc (by omega) (.cells #[.pointer (some ⟨wr.heap.size,0,none⟩)] 110)).grown hgrow (by simp;omega) (λj hj=>((uh HN2).row.lt j hj).1);have Hfin:=zaa hfin;have Hbf:=zaa hbf;clear hown' hgrow hal hrw hkp hnew hfin hbf;go_wp2;go_roundw
   case rel=>exact⟨l ++ [wr.heap.size],by rw[zsI];rfl,by rw[zsI];simp;omega,uh Hfin,uh Hbf⟩
   case measure=>simp[intOf];omega
  ·have hln:l.length=n:=by omega
   have hpos:0<l.length:=by omega
   obtain⟨g,c,hv,-⟩:=Wk.own_pos hN.row hpos
   cases hv
   have Hend:=zaa (zs5 hN);have Hb:=zaa hb;clear hN hb;rw[hln] at Hend ⊢;have hnn:¬ ((n:Int)<n):=by omega
   go_wp2;go_ret;exact⟨g,uc,_,_,rfl,uh Hend,uh Hb⟩
end Go.Proofs.YtieciibnajeibaaGreatDoor

/- The code's line. -/
import Derived.Test.YtagohbpbgjelaaaGreatDoorSX
import Derived.Test.YtagohbpbgjelaaaGreatDoorX3
namespace Go.Proofs.YtagohbpbgjelaaaGreatDoor
open Go.RowKit

theorem zjQ (w:World) (B:Nat) (hB:B≤w.heap.size):Lib.IsBuilder 140 5 B w.heap.size (Lib.byteCells []) (w.alloc (.cells #[.pointer none,.slice none 0 0] 140)) :=
 .inl ⟨hB,.slice none 0 0,Go.Deep.blk_alloc_new _ _,World.ownsRow_nil _ _ _ _,by simp[Value.ownBlock]⟩

theorem zc8 {B b:Nat} {acc s:List UInt8} {w:World} (h:Lib.IsBuilder 140 5 B b (Lib.byteCells acc) w) (hlen:acc.length+s.length≤1000000) (hBw:B≤w.heap.size) :
 Calls Tryz.prog 103 #[.pointer (some ⟨b,0,none⟩),.string (bs s)] w fun e w'=>(∃ v,e=.returned (.tuple v))∧Lib.IsBuilder 140 5 B b (Lib.byteCells (acc ++ s)) w'∧Below B w w':=by
 refine(zfJ B b _ (bs s) w h (by rw[Lib.byteCells,List.length_map,zgx];omega) hBw).mono ?_
 rintro e w' ⟨rfl,h1,hb⟩
 exact⟨⟨_,rfl⟩,by rw[Lib.byteCells_append];exact .inr h1,hb⟩

set_option maxHeartbeats 4000000 in
set_option maxRecDepth 100000 in
theorem zpm (G:Gm) (hc:za6 G=true) (ka pa ra qa:Option Addr) (kc pc rc qc:Nat) (l:Nat) (hl:l<G.rules.length) (prt:List Int) (hpr:prt.length≤64) (hpy:∀ x,x ∈ prt→1≤x∧x<((G.kinds.length+G.rules.length:Nat):Int)) (plv:Int) (pac:Ac) (rr:Option Addr) (rrc:Nat) (x3 x4:Int) (x5:ByteArray) (x6:Option Addr) (n6 c6:Nat) (w:World) (hin:GIn w.heap.size w G ka pa ra qa) (hrr:NRow w.heap.size w rr prt) :
 Calls Tryz.prog 61 #[gV G ka pa ra qa kc pc rc qc,.agg #[.int .i64 (l:Int),.slice rr prt.length rrc,.int .i64 plv,.int .i64 x3,.int .i64 x4,.string x5,.slice x6 n6 c6]] w fun e w'=>e=.returned (.string (bs (zgL G ⟨(l:Int),prt,plv,pac⟩)))∧Below w.heap.size w w':=by
 have hG:=zbS hc
 have hnr:=hG.r2;have hnk:=hG.k3
 unfold Gm.nr at hnr
 unfold Gm.nk at hnk
 have hnm:=zhN hc
 have hrl:=hnm.1 l hl
 obtain⟨W2,hW2⟩:∃ W2,W2=(w.alloc (.cells #[.slice ka G.kinds.length kc,.slice pa G.precs.length pc,.slice ra G.rules.length rc,.slice qa G.prods.length qc,.int .i64 G.start] 26)).alloc (.cells #[.int .i64 (l:Int),.slice rr prt.length rrc,.int .i64 plv,.int .i64 x3,.int .i64 x4,.string x5,.slice x6 n6 c6] 89):=⟨_,rfl⟩
 have hs2:W2.heap.size=w.heap.size+1+1:=by rw[hW2];simp
 have HX:Hid (∀ W:World,Below (w.heap.size+1+1) W2 W→GSt w.heap.size W G ka kc pa pc ra rc qa qc w.heap.size∧(W.cell? ⟨w.heap.size+1,0,none⟩=some (.int .i64 (l:Int))∧W.cell? ⟨w.heap.size+1,1,none⟩=some (.slice rr prt.length rrc))∧NRow w.heap.size W rr prt∧Below w.heap.size w W∧w.heap.size+1+1≤W.heap.size):=zaa (by
  have hst:=zbt (kc:=kc) (pc:=pc) (rc:=rc) (qc:=qc) (Nat.le_refl _) hin 26
  obtain⟨-,-,-,-,-,hs1,hb1⟩:=zrE w (.slice ka G.kinds.length kc) (.slice pa G.precs.length pc) (.slice ra G.rules.length rc) (.slice qa G.prods.length qc) (.int .i64 G.start) 26
  obtain⟨p0,p1,-,-,-,-,-,-,hb2⟩:=zrD (w.alloc (.cells #[.slice ka G.kinds.length kc,.slice pa G.precs.length pc,.slice ra G.rules.length rc,.slice qa G.prods.length qc,.int .i64 G.start] 26)) (.int .i64 (l:Int)) (.slice rr prt.length rrc) (.int .i64 plv) (.int .i64 x3) (.int .i64 x4) (.string x5) (.slice x6 n6 c6) 89
  rw[← hW2] at p0 p1 hb2
  rw[hs1] at p0 p1 hb2
  intro W hb
  have hb3:=hb2.trans (zab hb (by omega))
  exact⟨zan hb3 (Nat.le_refl _) hst,⟨(hb.cell (p:=⟨w.heap.size+1,0,none⟩) (Nat.lt_succ_self _)).trans p0,(hb.cell (p:=⟨w.heap.size+1,1,none⟩) (Nat.lt_succ_self _)).trans p1⟩,zau (hb1.trans (zab hb3 (by omega))) hrr,hb1.trans (zab hb3 (by omega)),by have:=hb.size;omega⟩)
 have hb23:Below (w.heap.size+1+1) W2 (W2.alloc (.cells #[.pointer none,.slice none 0 0] 140)):=(Below.refl _ _).alloc (by omega) _
 have hB3:=zjQ W2 (w.heap.size+1+1) (by omega)
 rw[hs2] at hB3
 obtain⟨HS1,-,-,-,-⟩:=uh HX _ hb23
 obtain⟨rb,roff,hra,hrbB,cr⟩:=zcb HS1.gin.rules hl
 obtain⟨W3,hW3⟩:∃ W3,W3=W2.alloc (.cells #[.pointer none,.slice none 0 0] 140):=⟨_,rfl⟩
 have hs3:W3.heap.size=w.heap.size+1+1+1:=by rw[hW3];simp;exact hs2
 have HW3:=zaa hW3;have HW2:=zaa hW2
 have HX3:Hid (Below (w.heap.size+1+1) W2 W3∧Lib.IsBuilder 140 5 (w.heap.size+1+1) (w.heap.size+1+1) (Lib.byteCells []) W3):=zaa (by rw[hW3];exact⟨hb23,hB3⟩)
 rw[hW2] at cr
 clear hW3 hb23 hB3 hW2
 have Hc:=zaa hc;have Hnm:=zaa hnm;have Hpy:=zaa hpy
 have Hln:Hid (zgL G ⟨(l:Int),prt,plv,pac⟩=(G.rules.getD l [] ++ [32,61]) ++ zcy G.kinds G.rules prt):=zaa rfl
 have hl1:(l:Int)<G.rules.length:=by omega
 clear HS1 hin hrr hG hc hnm hpy
 generalize zgL G ⟨(l:Int),prt,plv,pac⟩=LS at *
 generalize G.rules.getD l []=rn at *
 subst hra
 go_enter Tryz.func61,Tryz.ntmps61
 go_wp2_with fail
 rw[← uh HW2,← uh HW3]
 clear HW2 HW3 cr
 obtain⟨hb3,hB3⟩:=uh HX3
 refine(zc8 hB3 (by show 0+_≤_;omega) (by omega)).mono ?_
 rintro e W4 ⟨⟨v,rfl⟩,hB4,hb4⟩
 rw[List.nil_append] at hB4
 have hb4':=hb3.trans hb4
 have hs4:=hb4.size
 have HX4:=zaa hb4';have HB4:=zaa hB4
 clear hb3 hB3 hB4 hb4 HX3 hb4'
 go_wp2_with fail
 refine(zc8 (s:=[32,61]) (uh HB4) (by show _+2≤_;omega) (by omega)).mono ?_
 rintro e W5 ⟨⟨v5,rfl⟩,hB5,hb5⟩
 have hb5':=(uh HX4).trans hb5
 have hs5:=hb5.size
 obtain⟨base,hbase⟩:∃ base,base=rn ++ [32,61]:=⟨_,rfl⟩
 have hbl:base.length≤4098:=by rw[hbase,List.length_append];show _+2≤_;omega
 rw[← hbase] at hB5 Hln
 clear hbase HB4 HX4 hb5
 have HX5:=zaa hb5';have HB5:=zaa hB5
 obtain⟨-,⟨-,q1⟩,-,-,-⟩:=uh HX W5 hb5'
 clear hb5' hB5
 go_wp2
 go_loopw [7,19] (fun _ y W=>∃ j:Nat,y=.int .i64 j∧j≤prt.length∧Lib.IsBuilder 140 5 (w.heap.size+1+1) (w.heap.size+1+1) (Lib.byteCells (base ++ zcy G.kinds G.rules (prt.take j))) W∧(base ++ zcy G.kinds G.rules (prt.take j)).length≤4098+j * 4097∧Below (w.heap.size+1+1) W2 W) (fun _ y _=>prt.length - (intOf y).toNat)
 case atStart=>exact⟨0,rfl,Nat.zero_le _,by simpa [zcy] using uh HB5,by simp[zcy];omega,uh HX5⟩
 case round =>
  clear q1 HB5 HX5 hs5 hs4 hs3
  obtain⟨j,rfl,hj,hB,hjl,hb⟩:=hrel
  obtain⟨hst,⟨-,q1⟩,hrr,hbw,hsz⟩:=uh HX wr hb
  by_cases hjt:j<prt.length
  ·have hjt':(j:Int)<prt.length:=by omega
   obtain⟨rb2,ro2,rfl,hrb2,hcx⟩:=za3 hrr hjt
   have hx:=uh Hpy _ (za5 hjt)
   have Hsn2:Hid (base ++ zcy G.kinds G.rules (prt.take (j+1))=((base ++ zcy G.kinds G.rules (prt.take j)) ++ [32]) ++ zji G.kinds G.rules (prt.getD j 0)):=zaa (by rw[zbf _ _ 0 hjt,ze7];simp)
   have hsl:=zmj (uh Hc) hx.1 hx.2
   generalize prt.getD j 0=x at *
   obtain⟨hx1,hx2⟩:=hx
   have Hsy:Hid (zji G.kinds G.rules x=if x<G.kinds.length then G.kinds.getD x.toNat [] else G.rules.getD (x - G.kinds.length).toNat []):=zaa rfl
   generalize zji G.kinds G.rules x=sn at *
   generalize base ++ zcy G.kinds G.rules (prt.take j)=cur at *
   have HB:=zaa hB;have Hb:=zaa hb
   clear hst hrr hbw hB hb
   go_wp2_with fail
   refine(zc8 (s:=[32]) (uh HB) (by show _+1≤_;omega) (by omega)).mono ?_
   rintro e W6 ⟨⟨v6,rfl⟩,hB6,hb6⟩
   have hb6':=(uh Hb).trans hb6
   have hs6:=hb6.size
   have hl6:(cur ++ [32]).length=cur.length+1:=by simp
   obtain⟨hst,-,-,-,-⟩:=uh HX W6 hb6'
   have g0:=hst.c0;have g2:=hst.c2
   have HB6:=zaa hB6;have Hb6:=zaa hb6'
   generalize cur ++ [32]=n1 at *
   have Hlen2:Hid ((n1 ++ sn).length≤4098+(j+1) * 4097):=zaa (by rw[List.length_append];omega)
   clear hB6 hb6 hb6' HB Hb q1 hcx
   by_cases hxk:x<G.kinds.length
   ·obtain⟨xn,rfl⟩:∃ xn:Nat,x=(xn:Int):=⟨x.toNat,by omega⟩
    obtain⟨b,off,rfl,hbk,hck⟩:=zcb hst.gin.kinds (k:=xn) (by omega)
    have hs:sn=G.kinds.getD xn []:=by rw[uh Hsy,if_pos hxk];rfl
    rw[← hs] at hck
    clear hst hs Hsy
    go_wp2_with fail
    refine(zc8 (s:=sn) (uh HB6) (by omega) (by omega)).mono ?_
    rintro e W7 ⟨⟨v7,rfl⟩,hB7,hb7⟩
    have HB7:=zaa hB7;have Hb7:=zaa ((uh Hb6).trans hb7)
    clear hB7 hb7
    go_wp2
    go_roundw
    case rel=>exact⟨j+1,by go_num,by omega,by rw[uh Hsn2];exact uh HB7,by rw[uh Hsn2];exact uh Hlen2,uh Hb7⟩
    case measure=>simp[intOf];omega
   ·obtain⟨r,hxr⟩:∃ r:Nat,x - (G.kinds.length:Int)=r:=⟨(x - G.kinds.length).toNat,by omega⟩
    have hwr:=wN r (by omega)
    have hr2:(r:Int)<G.rules.length:=by omega
    obtain⟨b,off,hra,hbk,hck⟩:=zcb hst.gin.rules (k:=r) (by omega)
    obtain⟨rfl,rfl⟩:rb=b∧roff=off:=by injection hra with h;injection h with h1 h2;exact⟨h1,h2⟩
    have hs:sn=G.rules.getD r []:=by rw[uh Hsy,if_neg hxk,hxr];rfl
    rw[← hs] at hck
    clear hst hs Hsy hra
    go_wp2_with fail
    refine(zc8 (s:=sn) (uh HB6) (by omega) (by omega)).mono ?_
    rintro e W7 ⟨⟨v7,rfl⟩,hB7,hb7⟩
    have HB7:=zaa hB7;have Hb7:=zaa ((uh Hb6).trans hb7)
    clear hB7 hb7
    go_wp2
    go_roundw
    case rel=>exact⟨j+1,by go_num,by omega,by rw[uh Hsn2];exact uh HB7,by rw[uh Hsn2];exact uh Hlen2,uh Hb7⟩
    case measure=>simp[intOf];omega
  ·obtain rfl:j=prt.length:=by omega
   have Hfin:Hid (base ++ zcy G.kinds G.rules (prt.take prt.length)=LS):=zaa (by rw[List.take_length];exact(uh Hln).symm)
   rw[uh Hfin] at hB
   have HS:=zaa (Tryz.Builder_String_any (w.heap.size+1+1) (w.heap.size+1+1) LS wr hB hsz)
   have Hbw:=zaa hbw
   clear hst q1 hrr hbw hB hb hjl Hfin
   go_wp2_with fail
   refine(uh HS).mono ?_
   rintro e W8 ⟨rfl,hb8⟩
   have Hb8:=zaa ((uh Hbw).trans (zab hb8 (by omega)))
   clear hb8
   go_wp2
   go_ret
   exact⟨rfl,uh Hb8⟩
end Go.Proofs.YtagohbpbgjelaaaGreatDoor

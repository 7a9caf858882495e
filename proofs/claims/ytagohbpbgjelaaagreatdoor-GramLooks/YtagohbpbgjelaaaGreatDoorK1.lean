/- The document's Look. -/
import Derived.Test.YtagohbpbgjelaaaGreatDoorA5
import Derived.Test.YtagohbpbgjelaaaGreatDoorC1
import Derived.Test.YtagohbpbgjelaaaGreatDoorB1
import Derived.Test.YtagohbpbgjelaaaGreatDoorA4
import Derived.Test.YtagohbpbgjelaaaGreatDoorE2
namespace Go.Proofs.YtagohbpbgjelaaaGreatDoor
open Go.RowKit

set_option maxRecDepth 100000 in
theorem rowIs_below {w w':World} {b t n:Nat} {f:Nat→Value} (h:w.rowIs b t n f) (hb:Below w.heap.size w w'):w'.rowIs b t n f:=h.of_block (hb.block _ h.lt)

set_option maxRecDepth 100000 in
theorem look_in {G:Gm} {ka pa ra qa:Option Addr} (kc pc rc qc:Nat) {B:Nat} {w w1:World} (hB:B≤w.heap.size) (hin:GIn B w G ka pa ra qa) (hw:w1=(w.alloc (.cells #[.slice ka G.kinds.length kc,.slice pa G.precs.length pc,.slice ra G.rules.length rc,.slice qa G.prods.length qc,.int .i64 G.start] 26)).alloc (.cells #[.slice none 0 0,.slice none 0 0,.slice none 0 0,.slice none 0 0,.slice none 0 0,.slice none 0 0] 31)) :
   GSt B w1 G ka kc pa pc ra rc qa qc w.heap.size∧Below w.heap.size w w1∧w1.heap.size=w.heap.size+2∧w1.heap[w.heap.size+1]? = some (.cells #[.slice none 0 0,.slice none 0 0,.slice none 0 0,.slice none 0 0,.slice none 0 0,.slice none 0 0] 31):=by
 have hst:=gst_new (kc:=kc) (pc:=pc) (rc:=rc) (qc:=qc) hB hin 26
 have h1:(w.alloc (.cells #[.slice ka G.kinds.length kc,.slice pa G.precs.length pc,.slice ra G.rules.length rc,.slice qa G.prods.length qc,.int .i64 G.start] 26)).heap.size=w.heap.size+1:=by simp
 subst hw
 refine⟨gst_kept ((Below.refl _ _).alloc (by omega) _) hB hst,((Below.refl _ _).alloc (Nat.le_refl _) _).alloc (by omega) _,by simp,?_⟩
 rw[← h1]
 exact Go.Deep.blk_alloc_new _ _

set_option maxHeartbeats 4000000 in
set_option maxRecDepth 100000 in
theorem rLook_no (G:Gm) (hc:checkB G=false) (ka pa ra qa:Option Addr) (kc pc rc qc:Nat) (B:Nat) (w:World) (hB:B≤w.heap.size) (hin:GIn B w G ka pa ra qa) (hsm:∀ p,p ∈ G.prods→p.right.length≤281474976710656) :
   Calls Tryz.prog 10 #[.agg #[.slice ka G.kinds.length kc,.slice pa G.precs.length pc,.slice ra G.rules.length rc,.slice qa G.prods.length qc,.int .i64 G.start]] w fun e w'=>e=.returned (.tuple #[.agg #[.slice none 0 0,.slice none 0 0,.slice none 0 0,.slice none 0 0,.slice none 0 0,.slice none 0 0],.int .i64 130])∧Below w.heap.size w w':=by
 obtain⟨w1,hw1⟩:∃ w1,w1=(w.alloc (.cells #[.slice ka G.kinds.length kc,.slice pa G.precs.length pc,.slice ra G.rules.length rc,.slice qa G.prods.length qc,.int .i64 G.start] 26)).alloc (.cells #[.slice none 0 0,.slice none 0 0,.slice none 0 0,.slice none 0 0,.slice none 0 0,.slice none 0 0] 31):=⟨_,rfl⟩
 obtain⟨hst,hb1,hs1,hbx⟩:=look_in kc pc rc qc hB hin hw1
 have d0:=hst.c0;have d1:=hst.c1;have d2:=hst.c2;have d3:=hst.c3;have d4:=hst.c4
 have hC:=rCheck_any G ka pa ra qa kc pc rc qc B w1 (by omega) hst.gin hsm
 rw[show checkV G=130 by unfold checkV;rw[hc];rfl] at hC
 have HC:=hide hC
 have Hb1:=hide hb1;have Hbx:=hide hbx
 clear hst hC hb1 hin hsm hc hbx
 go_enter Tryz.func10,Tryz.ntmps10
 rw[hw1] at d0 d1 d2 d3 d4
 go_wp2_with fail
 rw[← hw1]
 refine(uh HC).mono ?_
 rintro e w2 ⟨rfl,hb2⟩
 have hbx2:=(hb2.block _ (by omega)).trans (uh Hbx)
 have hlt:=(Array.getElem?_eq_some_iff.1 hbx2).1
 have r0:w2.cell? ⟨w.heap.size+1,0,none⟩=some (.slice none 0 0):=by unfold World.cell?;rw[hbx2];rfl
 have f0:w2.frozen? ⟨w.heap.size+1,0,none⟩=false:=by unfold World.frozen?;rw[hbx2];rfl
 have r1:w2.cell? ⟨w.heap.size+1,1,none⟩=some (.slice none 0 0):=by unfold World.cell?;rw[hbx2];rfl
 have f1:w2.frozen? ⟨w.heap.size+1,1,none⟩=false:=by unfold World.frozen?;rw[hbx2];rfl
 have r2:w2.cell? ⟨w.heap.size+1,2,none⟩=some (.slice none 0 0):=by unfold World.cell?;rw[hbx2];rfl
 have f2:w2.frozen? ⟨w.heap.size+1,2,none⟩=false:=by unfold World.frozen?;rw[hbx2];rfl
 have r3:w2.cell? ⟨w.heap.size+1,3,none⟩=some (.slice none 0 0):=by unfold World.cell?;rw[hbx2];rfl
 have f3:w2.frozen? ⟨w.heap.size+1,3,none⟩=false:=by unfold World.frozen?;rw[hbx2];rfl
 have r4:w2.cell? ⟨w.heap.size+1,4,none⟩=some (.slice none 0 0):=by unfold World.cell?;rw[hbx2];rfl
 have f4:w2.frozen? ⟨w.heap.size+1,4,none⟩=false:=by unfold World.frozen?;rw[hbx2];rfl
 have r5:w2.cell? ⟨w.heap.size+1,5,none⟩=some (.slice none 0 0):=by unfold World.cell?;rw[hbx2];rfl
 have f5:w2.frozen? ⟨w.heap.size+1,5,none⟩=false:=by unfold World.frozen?;rw[hbx2];rfl
 have Hb2:=hide hb2
 clear hb2 hbx2
 clear d0 d1 d2 d3 d4
 go_wp2
 refine bodyPost_ret (v:=.tuple #[.agg #[.slice none 0 0,.slice none 0 0,.slice none 0 0,.slice none 0 0,.slice none 0 0,.slice none 0 0],.int .i64 130]) ?zz8 rfl ⟨rfl,?_⟩
 case zz8=>simp[results,Tryz.results10,go_sem,r0,r1,r2,r3,r4,r5]
 have hb:=(uh Hb1).trans (below_le (uh Hb2) (by omega))
 exact(((((hb.setCell (p:=⟨w.heap.size+1,0,none⟩) (by show w.heap.size≤w.heap.size+1;omega) _).setCell (p:=⟨w.heap.size+1,1,none⟩) (by show w.heap.size≤w.heap.size+1;omega) _).setCell (p:=⟨w.heap.size+1,2,none⟩) (by show w.heap.size≤w.heap.size+1;omega) _).setCell (p:=⟨w.heap.size+1,3,none⟩) (by show w.heap.size≤w.heap.size+1;omega) _).setCell (p:=⟨w.heap.size+1,4,none⟩) (by show w.heap.size≤w.heap.size+1;omega) _).setCell (p:=⟨w.heap.size+1,5,none⟩) (by show w.heap.size≤w.heap.size+1;omega) _
end Go.Proofs.YtagohbpbgjelaaaGreatDoor

namespace Go.Proofs.YtagohbpbgjelaaaGreatDoor
open Go.RowKit

def inTo (n:Nat) (row:List Int) (k:Nat):Prop:=∀ j,j<k→1≤row.getD j 0∧row.getD j 0<n
set_option maxHeartbeats 4000000 in
set_option maxRecDepth 100000 in
theorem rFirst_yes (G : Gm) (hc : checkB G = true) (ka pa ra qa : Option Addr) (kc pc rc qc : Nat) (ro : Option Addr) (rowc : Nat) (row : List Int) (hrl : row.length ≤ 281474976710656) (hsy : symsIn (G.kinds.length + G.rules.length) row) (B : Nat) (w : World) (hB : B ≤ w.heap.size) (hin : GIn B w G ka pa ra qa) (hrow : NRow B w ro row) :
   Calls Tryz.prog 12 #[.agg #[.slice ka G.kinds.length kc,.slice pa G.precs.length pc,.slice ra G.rules.length rc,.slice qa G.prods.length qc,.int .i64 G.start],.slice ro row.length rowc] w fun e w'=>∃ a c,e=.returned (.tuple #[.slice a (posL (boolsOf (begB G.nk (nullF G) (fstF G) row) G.nk)).length c,.bool (emptyB G.nk (nullF G) row),.int .i64 0])∧NRow w'.heap.size w' a (posL (boolsOf (begB G.nk (nullF G) (fstF G) row) G.nk))∧Below w.heap.size w w':=by
 have hst:=gst_new (kc:=kc) (pc:=pc) (rc:=rc) (qc:=qc) hB hin 26
 have hG:=check_ok hc
 have hnr:=hG.r2;have hnk:=hG.k3
 unfold Gm.nr at hnr
 unfold Gm.nk at hnk
 have d0:=hst.c0;have d1:=hst.c1;have d2:=hst.c2;have d3:=hst.c3;have d4:=hst.c4
 have hb1:Below w.heap.size w (w.alloc (.cells #[.slice ka G.kinds.length kc,.slice pa G.precs.length pc,.slice ra G.rules.length rc,.slice qa G.prods.length qc,.int .i64 G.start] 26)):=(Below.refl _ _).alloc (Nat.le_refl _) _
 have hw1:(w.alloc (.cells #[.slice ka G.kinds.length kc,.slice pa G.precs.length pc,.slice ra G.rules.length rc,.slice qa G.prods.length qc,.int .i64 G.start] 26)).heap.size=w.heap.size+1:=by simp
 have hC:=rCheck_any G ka pa ra qa kc pc rc qc B _ (by rw[hw1];omega) hst.gin (fun p hp=>by have:=hG.pr p hp;omega)
 rw[show checkV G=0 by unfold checkV;rw[hc];rfl] at hC
 have HC:=hide hC
 have Hb1:=hide hb1;have Hst:=hide hst;have HG:=hide hG;have Hrow:=hide hrow;have Hsy:=hide hsy
 clear hst hC hb1 hin hc hG hrow hsy
 go_enter Tryz.func12,Tryz.ntmps12
 go_wp2_with fail
 refine(uh HC).mono ?_
 rintro e w2 ⟨rfl,hb2⟩
 rw[hw1] at hb2
 have Hb2:=hide hb2
 clear hb2 d0 d1 d2 d3 d4
 generalize w.alloc (.cells #[.slice ka G.kinds.length kc,.slice pa G.precs.length pc,.slice ra G.rules.length rc,.slice qa G.prods.length qc,.int .i64 G.start] 26)=w1 at *
 go_wp2
 go_loopw [7] (fun x W=>∃ k:Nat,x=.int .i64 k∧k≤row.length∧Below (w.heap.size+1) w1 W) (fun x _=>row.length - (intOf x).toNat)
 case atStart=>exact⟨0,rfl,Nat.zero_le _,uh Hb2⟩
 case round =>
   clear Hb2
   obtain⟨k,rfl,hk,hb⟩:=hrel
   have hst:=gst_kept hb hB (uh Hst)
   have e0:=hst.c0;have e1:=hst.c1;have e2:=hst.c2;have e3:=hst.c3;have e4:=hst.c4
   have hsz:=hb.size
   have Hb:=hide hb
   by_cases hlt:k<row.length
   · have hlt':(k:Int)<row.length:=by omega
     have hbw:=(uh Hb1).trans (below_le hb (by omega))
     obtain⟨b,off,rfl,hbB,hcx⟩:=nrow_at (nrow_kept (below_le hbw hB) (uh Hrow)) hlt
     have hx:=uh Hsy _ (mem_getD hlt)
     generalize row.getD k 0=x at *
     have hx1:¬ x<1:=by omega
     have hww:IntKind.i64.wrap ((G.kinds.length:Int)+G.rules.length)=(G.kinds.length:Int)+G.rules.length:=by rw[IntKind.wrap_i64];omega
     have hx3:decide ((G.kinds.length:Int)+G.rules.length≤x)=false:=by rw[decide_eq_false_iff_not];omega
     clear hbw hst hb
     go_wp2
     go_quiet (fail)
     go_wp2
     go_roundw
     case rel=>exact⟨k+1,by go_num,by omega,below_drewN (uh Hb) _⟩
     case measure=>simp[intOf];omega
   · obtain rfl:k=row.length:=by omega
     have HN:=hide (rNullable_any G (uh HG) ka pa ra qa kc pc rc qc B wr (by omega) hst.gin)
     clear hst hb
     go_wp2_with fail
     refine(uh HN).mono ?_
     rintro e w3 ⟨nb,rfl,hnb,hnrr,hb3⟩
     have hb3':=(uh Hb).trans (below_le hb3 (by omega))
     have hst3:=gst_kept hb3' hB (uh Hst)
     have hsz3:=hb3'.size
     have f0:=hst3.c0;have f1:=hst3.c1;have f2:=hst3.c2;have f3:=hst3.c3;have f4:=hst3.c4
     have Hnrr:=hide hnrr;have Hb3:=hide hb3'
     have Hrow3:=hide (nrow_kept (below_le ((uh Hb1).trans (below_le hb3' (by omega))) hB) (uh Hrow))
     clear e0 e1 e2 e3 e4 hb3 hb3' hnrr HN
     have HS:Hid (∀ W:World,Below w3.heap.size w3 W→W.cell? ⟨w.heap.size,0,none⟩=some (.slice ka G.kinds.length kc)∧W.cell? ⟨w.heap.size,1,none⟩=some (.slice pa G.precs.length pc)∧W.cell? ⟨w.heap.size,2,none⟩=some (.slice ra G.rules.length rc)∧W.cell? ⟨w.heap.size,3,none⟩=some (.slice qa G.prods.length qc)∧W.cell? ⟨w.heap.size,4,none⟩=some (.int .i64 G.start)):=hide (fun W hb=>by
       have h:=gst_kept (below_le hb (by omega)) hB hst3
       exact⟨h.c0,h.c1,h.c2,h.c3,h.c4⟩)
     have HF:Hid (∀ W:World,Below w3.heap.size w3 W→Calls Tryz.prog 39 #[.agg #[.slice ka G.kinds.length kc,.slice pa G.precs.length pc,.slice ra G.rules.length rc,.slice qa G.prods.length qc,.int .i64 G.start],.slice (some ⟨nb,0,none⟩) G.nr G.nr] W fun e w'=>∃ tb tc bk,e=.returned (.slice (some ⟨tb,0,none⟩) G.nr tc)∧W.heap.size≤tb∧(∀ r,r<G.nr→W.heap.size≤bk r)∧TabIs w' tb G.nr G.nk bk (fstF G)∧Below W.heap.size W w'):=hide (fun W hb=>rFirsts_any G (uh HG) ka pa ra qa kc pc rc qc nb G.nr B W (by have:=hb.size;omega) (gst_kept (below_le hb (by omega)) hB hst3).gin ((uh Hnrr).of_block (hb.block _ (uh Hnrr).lt)))
     have HBg:Hid (∀ (W:World) (tb tc:Nat) (bk:Nat→Nat),Below w3.heap.size w3 W→TabIs W tb G.nr G.nk bk (fstF G)→Calls Tryz.prog 49 #[.agg #[.slice ka G.kinds.length kc,.slice pa G.precs.length pc,.slice ra G.rules.length rc,.slice qa G.prods.length qc,.int .i64 G.start],.slice (some ⟨nb,0,none⟩) G.nr G.nr,.slice (some ⟨tb,0,none⟩) G.nr tc,.slice ro row.length rowc] W fun e w'=>∃ b,e=.returned (.slice (some ⟨b,0,none⟩) G.nk G.nk)∧W.heap.size≤b∧w'.rowIs b 4 G.nk (fun k=>.bool (begB G.nk (nullF G) (fstF G) row k))∧Below W.heap.size W w'):=hide (fun W tb tc bk hb ht=>rBegins_any ka pa ra qa G.kinds.length kc G.precs.length pc G.rules.length rc G.prods.length qc G.start nb G.nr (nullF G) tb tc bk (fstF G) ro rowc row B W (by have:=hb.size;omega) hnk hnr hrl (nrow_kept (below_le hb (by omega)) (uh Hrow3)) (uh Hsy) ((uh Hnrr).of_block (hb.block _ (uh Hnrr).lt)) ht)
     have HL:Hid (∀ (W:World) (b:Nat),W.rowIs b 4 G.nk (fun k=>.bool (begB G.nk (nullF G) (fstF G) row k))→Calls Tryz.prog 48 #[.slice (some ⟨b,0,none⟩) G.nk G.nk] W fun e w'=>∃ v,e=.returned v∧w'.ownsRow W.heap.size 3 1 v (posL (boolsOf (begB G.nk (nullF G) (fstF G) row) G.nk)).length (vints (posL (boolsOf (begB G.nk (nullF G) (fstF G) row) G.nk)))∧Below W.heap.size W w'):=hide (fun W b hr=>by
       have:=rList_any (some ⟨b,0,none⟩) G.nk (boolsOf (begB G.nk (nullF G) (fstF G) row) G.nk) (by rw[boolsOf_len];unfold Gm.nk;omega) W (mrow_rowIs hr)
       rwa [boolsOf_len] at this)
     have HE:Hid (∀ W:World,Below w3.heap.size w3 W→Calls Tryz.prog 50 #[.agg #[.slice ka G.kinds.length kc,.slice pa G.precs.length pc,.slice ra G.rules.length rc,.slice qa G.prods.length qc,.int .i64 G.start],.slice (some ⟨nb,0,none⟩) G.nr G.nr,.slice ro row.length rowc] W fun e w'=>e=.returned (.bool (emptyB G.nk (nullF G) row))∧Below W.heap.size W w'):=hide (fun W hb=>rEmpty_any ka pa ra qa G.kinds.length kc G.precs.length pc G.rules.length rc G.prods.length qc G.start nb G.nr (nullF G) ro rowc row B W (by have:=hb.size;omega) hnr hrl (nrow_kept (below_le hb (by omega)) (uh Hrow3)) (uh Hsy) ((uh Hnrr).of_block (hb.block _ (uh Hnrr).lt)))
     have Hb4:Hid (∀ W:World,Below w3.heap.size w3 W→Below w.heap.size w W):=hide (fun W hb=>((uh Hb1).trans (below_le (uh Hb3) (by omega))).trans (below_le hb (by omega)))
     have hS:Below w3.heap.size w3 w3.drew:=(Below.refl _ _).drew
     clear hst3
     obtain⟨PL,hPL⟩:∃ PL,Hid (posL (boolsOf (begB G.nk (nullF G) (fstF G) row) G.nk)=PL):=⟨_,hide rfl⟩
     obtain⟨EB,hEB⟩:∃ EB,Hid (emptyB G.nk (nullF G) row=EB):=⟨_,hide rfl⟩
     rw[uh hPL] at HL
     rw[uh hEB] at HE
     go_wp2
     go_region_held3 (fun W:World=>W.cell? ⟨w.heap.size,0,none⟩=some (.slice ka G.kinds.length kc)∧W.cell? ⟨w.heap.size,1,none⟩=some (.slice pa G.precs.length pc)∧W.cell? ⟨w.heap.size,2,none⟩=some (.slice ra G.rules.length rc)∧W.cell? ⟨w.heap.size,3,none⟩=some (.slice qa G.prods.length qc)∧W.cell? ⟨w.heap.size,4,none⟩=some (.int .i64 G.start))
       (first | exact uh HS _ hS | fail)
       (first
         | (go_at_call 39;refine(uh HF _ hS).mono ?_;rintro e W4 ⟨tb,tc,bk,rfl,htb,hbk,htab,hb4⟩;have hS:=hS.trans (below_le hb4 hS.size);clear htb hbk hb4)
         | (go_at_call 49;refine(uh HBg _ tb tc bk hS htab).mono ?_;rintro e W5 ⟨bb,rfl,hbb,hbr,hb5⟩;have hS:=hS.trans (below_le hb5 hS.size);clear hbb hb5 htab)
         | (go_at_call 48;refine(uh HL _ bb hbr).mono ?_;rintro e W6 ⟨v6,rfl,how,hb6⟩;have hS:=hS.trans (below_le hb6 hS.size);clear hb6 hbr)
         | (go_at_call 50;refine(uh HE _ hS).mono ?_;rintro e W7 ⟨rfl,hb7⟩;have how:=own_below how hb7;have hS:=hS.trans (below_le hb7 hS.size);clear hb7)
         | fail)
     obtain⟨a,c,rfl,hnrow⟩:=own_nrow how
     have Hend:=hide (uh Hb4 _ hS)
     have Hnrow:=hide hnrow
     clear how hnrow hS
     go_wp2
     refine bodyPost_ret (v:=.tuple #[.slice a PL.length c,.bool EB,.int .i64 0]) (by simp[results,Tryz.results12,go_sem]) rfl ?_
     rw[uh hPL,uh hEB]
     exact⟨a,c,rfl,uh Hnrow,uh Hend⟩
end Go.Proofs.YtagohbpbgjelaaaGreatDoor

namespace Go.Proofs.YtagohbpbgjelaaaGreatDoor
open Go.RowKit

set_option maxHeartbeats 2000000 in
set_option maxRecDepth 100000 in
theorem rFirst_no (G:Gm) (hc:checkB G=false) (ka pa ra qa:Option Addr) (kc pc rc qc:Nat) (ro:Option Addr) (rn rowc:Nat) (B:Nat) (w:World) (hB:B≤w.heap.size) (hin:GIn B w G ka pa ra qa) (hsm:∀ p,p ∈ G.prods→p.right.length≤281474976710656) :
   Calls Tryz.prog 12 #[.agg #[.slice ka G.kinds.length kc,.slice pa G.precs.length pc,.slice ra G.rules.length rc,.slice qa G.prods.length qc,.int .i64 G.start],.slice ro rn rowc] w fun e w'=>e=.returned (.tuple #[.slice none 0 0,.bool false,.int .i64 130])∧Below w.heap.size w w':=by
 have hst:=gst_new (kc:=kc) (pc:=pc) (rc:=rc) (qc:=qc) hB hin 26
 have d0:=hst.c0;have d1:=hst.c1;have d2:=hst.c2;have d3:=hst.c3;have d4:=hst.c4
 have hb1:Below w.heap.size w (w.alloc (.cells #[.slice ka G.kinds.length kc,.slice pa G.precs.length pc,.slice ra G.rules.length rc,.slice qa G.prods.length qc,.int .i64 G.start] 26)):=(Below.refl _ _).alloc (Nat.le_refl _) _
 have hw1:(w.alloc (.cells #[.slice ka G.kinds.length kc,.slice pa G.precs.length pc,.slice ra G.rules.length rc,.slice qa G.prods.length qc,.int .i64 G.start] 26)).heap.size=w.heap.size+1:=by simp
 have hC:=rCheck_any G ka pa ra qa kc pc rc qc B _ (by rw[hw1];omega) hst.gin hsm
 rw[show checkV G=130 by unfold checkV;rw[hc];rfl] at hC
 have HC:=hide hC
 have Hb1:=hide hb1
 clear hst hC hb1 hin hsm hc
 go_enter Tryz.func12,Tryz.ntmps12
 go_wp2_with fail
 refine(uh HC).mono ?_
 rintro e w2 ⟨rfl,hb2⟩
 have Hb2:=hide ((uh Hb1).trans (below_le hb2 (by omega)))
 clear hb2 d0 d1 d2 d3 d4
 go_wp2
 refine bodyPost_ret (v:=.tuple #[.slice none 0 0,.bool false,.int .i64 130]) (by simp[results,Tryz.results12,go_sem]) rfl ⟨rfl,uh Hb2⟩

set_option maxHeartbeats 4000000 in
set_option maxRecDepth 100000 in
theorem rFirst_out (G : Gm) (hc : checkB G = true) (ka pa ra qa : Option Addr) (kc pc rc qc : Nat) (ro : Option Addr) (rowc : Nat) (row : List Int) (hrl : row.length ≤ 281474976710656) (hsy : ¬ inTo (G.kinds.length + G.rules.length) row row.length) (B : Nat) (w : World) (hB : B ≤ w.heap.size) (hin : GIn B w G ka pa ra qa) (hrow : NRow B w ro row) :
   Calls Tryz.prog 12 #[.agg #[.slice ka G.kinds.length kc,.slice pa G.precs.length pc,.slice ra G.rules.length rc,.slice qa G.prods.length qc,.int .i64 G.start],.slice ro row.length rowc] w fun e w'=>e=.returned (.tuple #[.slice none 0 0,.bool false,.int .i64 1])∧Below w.heap.size w w':=by
 have hst:=gst_new (kc:=kc) (pc:=pc) (rc:=rc) (qc:=qc) hB hin 26
 have hG:=check_ok hc
 have hnr:=hG.r2;have hnk:=hG.k3
 unfold Gm.nr at hnr
 unfold Gm.nk at hnk
 have d0:=hst.c0;have d1:=hst.c1;have d2:=hst.c2;have d3:=hst.c3;have d4:=hst.c4
 have hb1:Below w.heap.size w (w.alloc (.cells #[.slice ka G.kinds.length kc,.slice pa G.precs.length pc,.slice ra G.rules.length rc,.slice qa G.prods.length qc,.int .i64 G.start] 26)):=(Below.refl _ _).alloc (Nat.le_refl _) _
 have hw1:(w.alloc (.cells #[.slice ka G.kinds.length kc,.slice pa G.precs.length pc,.slice ra G.rules.length rc,.slice qa G.prods.length qc,.int .i64 G.start] 26)).heap.size=w.heap.size+1:=by simp
 have hC:=rCheck_any G ka pa ra qa kc pc rc qc B _ (by rw[hw1];omega) hst.gin (fun p hp=>by have:=hG.pr p hp;omega)
 rw[show checkV G=0 by unfold checkV;rw[hc];rfl] at hC
 have HC:=hide hC
 have Hb1:=hide hb1;have Hst:=hide hst;have HG:=hide hG;have Hrow:=hide hrow;have Hsy:=hide hsy
 clear hst hC hb1 hin hc hG hrow hsy
 go_enter Tryz.func12,Tryz.ntmps12
 go_wp2_with fail
 refine(uh HC).mono ?_
 rintro e w2 ⟨rfl,hb2⟩
 rw[hw1] at hb2
 have Hb2:=hide hb2
 clear hb2 d0 d1 d2 d3 d4
 generalize w.alloc (.cells #[.slice ka G.kinds.length kc,.slice pa G.precs.length pc,.slice ra G.rules.length rc,.slice qa G.prods.length qc,.int .i64 G.start] 26)=w1 at *
 go_wp2
 go_loopw [7] (fun x W=>∃ k:Nat,x=.int .i64 k∧k≤row.length∧inTo (G.kinds.length+G.rules.length) row k∧Below (w.heap.size+1) w1 W) (fun x _=>row.length - (intOf x).toNat)
 case atStart=>exact⟨0,rfl,Nat.zero_le _,fun j hj=>absurd hj (Nat.not_lt_zero _),uh Hb2⟩
 case round =>
   clear Hb2
   obtain⟨k,rfl,hk,hto,hb⟩:=hrel
   have Hto:=hide hto
   clear hto
   have hst:=gst_kept hb hB (uh Hst)
   have e0:=hst.c0;have e1:=hst.c1;have e2:=hst.c2;have e3:=hst.c3;have e4:=hst.c4
   have hsz:=hb.size
   have Hb:=hide hb
   by_cases hlt:k<row.length
   · have hlt':(k:Int)<row.length:=by omega
     have hbw:=(uh Hb1).trans (below_le hb (by omega))
     obtain⟨b,off,rfl,hbB,hcx⟩:=nrow_at (nrow_kept (below_le hbw hB) (uh Hrow)) hlt
     have Hs:=hide (fun(h:1≤row.getD k 0∧row.getD k 0<(G.kinds.length+G.rules.length:Nat))=>show inTo (G.kinds.length+G.rules.length) row (k+1) from fun j hj=>by
       by_cases e:j=k
       · subst e;exact h
       · exact uh Hto j (by omega))
     generalize row.getD k 0=x at *
     have hww:IntKind.i64.wrap ((G.kinds.length:Int)+G.rules.length)=(G.kinds.length:Int)+G.rules.length:=by rw[IntKind.wrap_i64];omega
     have Hbw:=hide hbw
     clear hbw hst hb
     by_cases hx1:x<1
     · go_wp2
       go_quiet (fail)
       go_wp2
       refine bodyPost_ret (v:=.tuple #[.slice none 0 0,.bool false,.int .i64 1]) (by simp[results,Tryz.results12,go_sem]) rfl ⟨rfl,below_drewN (uh Hbw) _⟩
     · by_cases hx2:(G.kinds.length:Int)+G.rules.length≤x
       · go_wp2
         go_quiet (fail)
         go_wp2
         refine bodyPost_ret (v:=.tuple #[.slice none 0 0,.bool false,.int .i64 1]) (by simp[results,Tryz.results12,go_sem]) rfl ⟨rfl,below_drewN (uh Hbw) _⟩
       · have hx3:decide ((G.kinds.length:Int)+G.rules.length≤x)=false:=by rw[decide_eq_false_iff_not];exact hx2
         have Hs2:=hide (uh Hs (by omega))
         go_wp2
         go_quiet (fail)
         go_wp2
         go_roundw
         case rel=>exact⟨k+1,by go_num,by omega,uh Hs2,below_drewN (uh Hb) _⟩
         case measure=>simp[intOf];omega
   · obtain rfl:k=row.length:=by omega
     exact absurd (uh Hto) (uh Hsy)
end Go.Proofs.YtagohbpbgjelaaaGreatDoor

namespace Go.Proofs.YtagohbpbgjelaaaGreatDoor
open Go.RowKit

def eqTo {α:Type} (d:α) (a b:List α) (k:Nat):Prop:=∀ j,j<k→a.getD j d=b.getD j d
theorem eq_of {α:Type} {d:α} {a b:List α} (hl:a.length=b.length) (h:eqTo d a b a.length):a=b:=by
 apply List.ext_getElem hl
 intro j h1 h2
 have:=h j h1
 rwa [List.getD_eq_getElem?_getD,List.getD_eq_getElem?_getD,List.getElem?_eq_getElem h1,List.getElem?_eq_getElem h2] at this

set_option maxHeartbeats 1000000 in
set_option maxRecDepth 100000 in
theorem rSameInts_any (a b : Option Addr) (ca cb : Nat) (l m : List Int) (hl : l.length ≤ 281474976710656) (w : World) (h1 : NRow w.heap.size w a l) (h2 : NRow w.heap.size w b m) :
   Calls Tryz.prog 16 #[.slice a l.length ca,.slice b m.length cb] w fun e w'=>e=.returned (.bool (decide (l=m)))∧∃ q,w'=w.drewN q:=by
 by_cases hlen:l.length=m.length
 · have hlen':((l.length:Int) != m.length)=false:=by simp;omega
   have Hyes:=hide (fun(h:eqTo 0 l m l.length)=>show decide (l=m)=true from decide_eq_true (eq_of hlen h))
   have Hno:=hide (fun(j:Nat) (h:l.getD j 0≠m.getD j 0)=>show decide (l=m)=false from decide_eq_false (fun e=>h (by rw[e])))
   have H1:=hide h1;have H2:=hide h2
   clear h1 h2
   generalize decide (l=m)=R at *
   go_enter Tryz.func16,Tryz.ntmps16
   go_wp2
   go_loopw [5] (fun x wr=>∃ k:Nat,x=.int .i64 k∧k≤l.length∧eqTo 0 l m k∧∃ q,wr=w.drewN q) (fun x _=>l.length - (intOf x).toNat)
   case atStart=>exact⟨0,rfl,Nat.zero_le _,fun j hj=>absurd hj (Nat.not_lt_zero _),0,rfl⟩
   case round =>
     obtain⟨k,rfl,hk,heq,q,rfl⟩:=hrel
     have Heq:=hide heq
     clear heq
     by_cases hlt:k<l.length
     · have hlt':(k:Int)<l.length:=by omega
       have hlt2':(k:Int)<m.length:=by omega
       obtain⟨b1,o1,rfl,hb1,c1⟩:=nrow_at (uh H1) hlt
       obtain⟨b2,o2,rfl,hb2,c2⟩:=nrow_at (uh H2) (k:=k) (by omega)
       have d1:(w.drewN q).cell? ⟨b1,o1+k,none⟩=some (.int .i64 (l.getD k 0)):=c1
       have d2:(w.drewN q).cell? ⟨b2,o2+k,none⟩=some (.int .i64 (m.getD k 0)):=c2
       clear c1 c2
       by_cases he:l.getD k 0=m.getD k 0
       · have Hs:Hid (eqTo 0 l m (k+1)):=hide (fun j hj=>by
           by_cases e:j=k
           · subst e;exact he
           · exact uh Heq j (by omega))
         rw[he] at d1
         clear he
         generalize m.getD k 0=x at *
         generalize hW:w.drewN q=W at *
         go_wp2
         go_quiet (fail)
         go_wp2
         go_roundw
         case rel=>exact⟨k+1,by go_num,by omega,uh Hs,q+nq,by rw[← hW,World.drewN_drewN]⟩
         case measure=>simp[intOf];omega
       · have Hr:=hide (uh Hno k he)
         have hne:(l.getD k 0 != m.getD k 0)=true:=by simpa using he
         clear he
         generalize m.getD k 0=x at *
         generalize l.getD k 0=y at *
         generalize hW:w.drewN q=W at *
         go_wp2
         go_quiet (fail)
         go_wp2
         go_ret
         rw[uh Hr]
         exact⟨rfl,q+nq,by rw[← hW,World.drewN_drewN]⟩
     · obtain rfl:k=l.length:=by omega
       have Hr:=hide (uh Hyes (uh Heq))
       go_wp2
       go_ret
       rw[uh Hr]
       exact⟨rfl,q,rfl⟩
 · have hlen':((l.length:Int) != m.length)=true:=by simp;omega
   have Hr:Hid (decide (l=m)=false):=hide (decide_eq_false (fun e=>hlen (by rw[e])))
   generalize decide (l=m)=R at *
   clear hlen
   go_enter Tryz.func16,Tryz.ntmps16
   go_wp2
   go_ret
   rw[uh Hr]
   exact⟨rfl,0,rfl⟩
end Go.Proofs.YtagohbpbgjelaaaGreatDoor

namespace Go.Proofs.YtagohbpbgjelaaaGreatDoor
open Go.RowKit

theorem nrow_big {B B':Nat} {w:World} {a:Option Addr} {l:List Int} (hB:B≤B') (h:NRow B w a l):NRow B' w a l:=by
 rcases h with h | ⟨b,off,h1,h2,h3⟩
 · exact .inl h
 · exact .inr ⟨b,off,h1,by omega,h3⟩
end Go.Proofs.YtagohbpbgjelaaaGreatDoor

namespace Go.Proofs.YtagohbpbgjelaaaGreatDoor
open Go.RowKit

theorem posL_le (l:List Bool):(posL l).length≤l.length:=posTo_le l _
set_option maxHeartbeats 1000000 in
set_option maxRecDepth 100000 in
theorem rSameMarks_eq (a b:Option Addr) (ca cb:Nat) (l:List Bool) (hl:l.length≤1099511627776) (w:World) (h1:MRow w a l) (h2:MRow w b l) :
   Calls Tryz.prog 55 #[.slice a l.length ca,.slice b l.length cb] w fun e w'=>e=.returned (.bool true)∧Below w.heap.size w w':=by
 have HA:=hide (rList_any a ca l hl w h1)
 have H2:=hide h2
 have hpl:=posL_le l
 clear h1 h2
 go_enter Tryz.func55,Tryz.ntmps55
 go_wp2_with fail
 refine(uh HA).mono ?_
 rintro e w2 ⟨v2,rfl,hown2,hb2⟩
 have HB:=hide (rList_any b cb l hl w2 (mrow_below (uh H2) hb2))
 have Hown2:=hide hown2;have Hb2:=hide hb2
 have hs2:=hb2.size
 clear hown2 hb2
 go_wp2_with fail
 refine(uh HB).mono ?_
 rintro e w3 ⟨v3,rfl,hown3,hb3⟩
 obtain⟨a2,c2,rfl,hn2⟩:=own_nrow (own_below (uh Hown2) hb3)
 obtain⟨a3,c3,rfl,hn3⟩:=own_nrow hown3
 have HS:=rSameInts_any a2 a3 c2 c3 (posL l) (posL l) (by omega) w3 hn2 hn3
 rw[decide_eq_true rfl] at HS
 have HS:=hide HS
 have Hb3:=hide ((uh Hb2).trans (below_le hb3 hs2))
 clear hown3 hb3 hn2 hn3 HA HB
 generalize (posL l).length=N at *
 go_wp2_with fail
 refine(uh HS).mono ?_
 rintro e w4 ⟨rfl,q,rfl⟩
 go_wp2
 go_ret
 exact⟨rfl,below_drewN (uh Hb3) _⟩

theorem nnrow_at {w:World} {a:Option Addr} {ll:List (List Int)} (h:NNRow w a ll) {k:Nat} (hk:k<ll.length):∃ b off,a=some ⟨b,off,none⟩∧b<w.heap.size∧∃ ra rc,w.cell? ⟨b,off+k,none⟩=some (.slice ra (ll.getD k []).length rc)∧NRow w.heap.size w ra (ll.getD k []):=by
 rcases h with rfl | ⟨b,off,h1,h2,h3⟩
 · simp at hk
 · exact⟨b,off,h1,h2,h3 k hk⟩

set_option maxHeartbeats 1000000 in
set_option maxRecDepth 100000 in
theorem rSameLists_eq (a b : Option Addr) (ca cb : Nat) (ll : List (List Int)) (hl : ll.length ≤ 281474976710656) (hll : ∀ l, l ∈ ll → l.length ≤ 281474976710656) (w : World) (h1 : NNRow w a ll) (h2 : NNRow w b ll) :
   Calls Tryz.prog 56 #[.slice a ll.length ca,.slice b ll.length cb] w fun e w'=>e=.returned (.bool true)∧∃ q,w'=w.drewN q:=by
 have H1:=hide h1;have H2:=hide h2;have Hll:=hide hll
 clear h1 h2 hll
 have hnot:=run_not
 go_enter Tryz.func56,Tryz.ntmps56
 go_wp2
 go_loopw [5] (fun x wr=>∃ k:Nat,x=.int .i64 k∧k≤ll.length∧∃ q,wr=w.drewN q) (fun x _=>ll.length - (intOf x).toNat)
 case atStart=>exact⟨0,rfl,Nat.zero_le _,0,rfl⟩
 case round =>
   obtain⟨k,rfl,hk,q,rfl⟩:=hrel
   by_cases hlt:k<ll.length
   · have hlt':(k:Int)<ll.length:=by omega
     obtain⟨b1,o1,rfl,hb1,r1,s1,c1,n1⟩:=nnrow_at (uh H1) hlt
     obtain⟨b2,o2,rfl,hb2,r2,s2,c2,n2⟩:=nnrow_at (uh H2) hlt
     have hle:(ll.getD k []).length≤281474976710656:=by
       rw[List.getD_eq_getElem?_getD,List.getElem?_eq_getElem hlt];exact uh Hll _ (List.getElem_mem hlt)
     have HS:∀ W:World,(∃ q,W=w.drewN q)→Calls Tryz.prog 16 #[.slice r1 (ll.getD k []).length s1,.slice r2 (ll.getD k []).length s2] W fun e w'=>e=.returned (.bool true)∧∃ q,w'=W.drewN q:=by
       rintro W ⟨q,rfl⟩
       have:=rSameInts_any r1 r2 s1 s2 (ll.getD k []) (ll.getD k []) hle (w.drewN q) n1 n2
       rwa [decide_eq_true rfl] at this
     have HS:=hide HS
     have d1:(w.drewN q).cell? ⟨b1,o1+k,none⟩=some (.slice r1 (ll.getD k []).length s1):=c1
     have d2:(w.drewN q).cell? ⟨b2,o2+k,none⟩=some (.slice r2 (ll.getD k []).length s2):=c2
     clear c1 c2 n1 n2 hle
     generalize ll.getD k []=L at *
     have HQ:=hide (⟨q,rfl⟩:∃ q',w.drewN q=w.drewN q')
     generalize w.drewN q=W at *
     go_wp2
     go_quiet ((go_at_call 16;refine Calls.quiet_of (uh HS _ ?_);obtain⟨z,hz⟩:=uh HQ;exact⟨_,by rw[hz,World.drewN_drewN]⟩))
     go_wp2
     go_roundw
     case rel=>exact⟨k+1,by go_num,by omega,(by obtain⟨z,hz⟩:=uh HQ;exact⟨_,by rw[hz,World.drewN_drewN]⟩)⟩
     case measure=>simp[intOf];omega
   · obtain rfl:k=ll.length:=by omega
     go_wp2
     go_ret
     exact⟨rfl,q,rfl⟩
end Go.Proofs.YtagohbpbgjelaaaGreatDoor

namespace Go.Proofs.YtagohbpbgjelaaaGreatDoor
open Go.RowKit

theorem cell_blk {w:World} {b:Nat} {c:Array Value} {t:TypeId} (h:w.heap[b]? = some (.cells c t)) (i:Nat) (v:Value) (hv:c[i]? = some v):w.cell? ⟨b,i,none⟩=some v:=by
 unfold World.cell?;rw[h];exact hv

set_option maxHeartbeats 4000000 in
set_option maxRecDepth 100000 in
theorem rSameReport_eq (a0 a1 a2 a3 a4 a5 b0 b1 b2 b3 b4 b5:Option Addr) (ac0 ac1 ac2 ac3 ac4 ac5 bc0 bc1 bc2 bc3 bc4 bc5:Nat) (l0 l1 l2 l3:List Bool) (f4 f5:List (List Int)) (w:World) (x0:MRow w a0 l0) (y0:MRow w b0 l0) (z0:l0.length≤1048576) (x1:MRow w a1 l1) (y1:MRow w b1 l1) (z1:l1.length≤1048576) (x2:MRow w a2 l2) (y2:MRow w b2 l2) (z2:l2.length≤1048576) (x3:MRow w a3 l3) (y3:MRow w b3 l3) (z3:l3.length≤1048576) (x4:NNRow w a4 f4) (y4:NNRow w b4 f4) (z4:f4.length≤1048576) (u4:∀ l,l ∈ f4→l.length≤281474976710656) (x5:NNRow w a5 f5) (y5:NNRow w b5 f5) (z5:f5.length≤1048576) (u5:∀ l,l ∈ f5→l.length≤281474976710656) :
   Calls Tryz.prog 15 #[.agg #[.slice a0 l0.length ac0,.slice a1 l1.length ac1,.slice a2 l2.length ac2,.slice a3 l3.length ac3,.slice a4 f4.length ac4,.slice a5 f5.length ac5],.agg #[.slice b0 l0.length bc0,.slice b1 l1.length bc1,.slice b2 l2.length bc2,.slice b3 l3.length bc3,.slice b4 f4.length bc4,.slice b5 f5.length bc5]] w fun e w'=>e=.returned (.bool true)∧Below w.heap.size w w':=by
 obtain⟨w1,hw1⟩:∃ w1,w1=(w.alloc (.cells #[.slice a0 l0.length ac0,.slice a1 l1.length ac1,.slice a2 l2.length ac2,.slice a3 l3.length ac3,.slice a4 f4.length ac4,.slice a5 f5.length ac5] 31)).alloc (.cells #[.slice b0 l0.length bc0,.slice b1 l1.length bc1,.slice b2 l2.length bc2,.slice b3 l3.length bc3,.slice b4 f4.length bc4,.slice b5 f5.length bc5] 31):=⟨_,rfl⟩
 have hb1:Below w.heap.size w w1:=by rw[hw1];exact((Below.refl _ _).alloc (Nat.le_refl _) _).alloc (by simp) _
 have hs1:w1.heap.size=w.heap.size+2:=by rw[hw1];simp
 have hB:w1.heap[w.heap.size+1]? = some (.cells #[.slice b0 l0.length bc0,.slice b1 l1.length bc1,.slice b2 l2.length bc2,.slice b3 l3.length bc3,.slice b4 f4.length bc4,.slice b5 f5.length bc5] 31):=by
   have:=Go.Deep.blk_alloc_new (w.alloc (.cells #[.slice a0 l0.length ac0,.slice a1 l1.length ac1,.slice a2 l2.length ac2,.slice a3 l3.length ac3,.slice a4 f4.length ac4,.slice a5 f5.length ac5] 31)) (.cells #[.slice b0 l0.length bc0,.slice b1 l1.length bc1,.slice b2 l2.length bc2,.slice b3 l3.length bc3,.slice b4 f4.length bc4,.slice b5 f5.length bc5] 31)
   rw[hw1];simpa using this
 have hA:w1.heap[w.heap.size]? = some (.cells #[.slice a0 l0.length ac0,.slice a1 l1.length ac1,.slice a2 l2.length ac2,.slice a3 l3.length ac3,.slice a4 f4.length ac4,.slice a5 f5.length ac5] 31):=by
   rw[hw1,Below.heap_alloc _ _ _ (by simp)]
   exact Go.Deep.blk_alloc_new _ _
 have HAc:Hid (∀ W:World,Below w1.heap.size w1 W→W.heap[w.heap.size]? = some (.cells #[.slice a0 l0.length ac0,.slice a1 l1.length ac1,.slice a2 l2.length ac2,.slice a3 l3.length ac3,.slice a4 f4.length ac4,.slice a5 f5.length ac5] 31)∧W.heap[w.heap.size+1]? = some (.cells #[.slice b0 l0.length bc0,.slice b1 l1.length bc1,.slice b2 l2.length bc2,.slice b3 l3.length bc3,.slice b4 f4.length bc4,.slice b5 f5.length bc5] 31)):=hide (fun W hb=>⟨(hb.block _ (by omega)).trans hA,(hb.block _ (by omega)).trans hB⟩)
 have H0:Hid (∀ W:World,Below w1.heap.size w1 W→Calls Tryz.prog 55 #[.slice a0 l0.length ac0,.slice b0 l0.length bc0] W fun e w'=>e=.returned (.bool true)∧Below W.heap.size W w'):=hide (fun W hb=>rSameMarks_eq a0 b0 ac0 bc0 l0 (by omega) W (mrow_below x0 (hb1.trans (below_le hb (by omega)))) (mrow_below y0 (hb1.trans (below_le hb (by omega)))))
 have H1:Hid (∀ W:World,Below w1.heap.size w1 W→Calls Tryz.prog 55 #[.slice a1 l1.length ac1,.slice b1 l1.length bc1] W fun e w'=>e=.returned (.bool true)∧Below W.heap.size W w'):=hide (fun W hb=>rSameMarks_eq a1 b1 ac1 bc1 l1 (by omega) W (mrow_below x1 (hb1.trans (below_le hb (by omega)))) (mrow_below y1 (hb1.trans (below_le hb (by omega)))))
 have H2:Hid (∀ W:World,Below w1.heap.size w1 W→Calls Tryz.prog 55 #[.slice a2 l2.length ac2,.slice b2 l2.length bc2] W fun e w'=>e=.returned (.bool true)∧Below W.heap.size W w'):=hide (fun W hb=>rSameMarks_eq a2 b2 ac2 bc2 l2 (by omega) W (mrow_below x2 (hb1.trans (below_le hb (by omega)))) (mrow_below y2 (hb1.trans (below_le hb (by omega)))))
 have H3:Hid (∀ W:World,Below w1.heap.size w1 W→Calls Tryz.prog 55 #[.slice a3 l3.length ac3,.slice b3 l3.length bc3] W fun e w'=>e=.returned (.bool true)∧Below W.heap.size W w'):=hide (fun W hb=>rSameMarks_eq a3 b3 ac3 bc3 l3 (by omega) W (mrow_below x3 (hb1.trans (below_le hb (by omega)))) (mrow_below y3 (hb1.trans (below_le hb (by omega)))))
 have H4:Hid (∀ W:World,Below w1.heap.size w1 W→Calls Tryz.prog 56 #[.slice a4 f4.length ac4,.slice b4 f4.length bc4] W fun e w'=>e=.returned (.bool true)∧∃ q,w'=W.drewN q):=hide (fun W hb=>rSameLists_eq a4 b4 ac4 bc4 f4 (by omega) u4 W (nnrow_up x4 (hb1.trans (below_le hb (by omega)))) (nnrow_up y4 (hb1.trans (below_le hb (by omega)))))
 have H5:Hid (∀ W:World,Below w1.heap.size w1 W→Calls Tryz.prog 56 #[.slice a5 f5.length ac5,.slice b5 f5.length bc5] W fun e w'=>e=.returned (.bool true)∧∃ q,w'=W.drewN q):=hide (fun W hb=>rSameLists_eq a5 b5 ac5 bc5 f5 (by omega) u5 W (nnrow_up x5 (hb1.trans (below_le hb (by omega)))) (nnrow_up y5 (hb1.trans (below_le hb (by omega)))))
 have Hb1:=hide hb1
 clear hb1 hA hB x0 y0 z0 x1 y1 z1 x2 y2 z2 x3 y3 z3 x4 y4 z4 x5 y5 z5 u4 u5
 go_enter Tryz.func15,Tryz.ntmps15
 have hS:Below w1.heap.size w1 w1:=Below.refl _ _
 obtain⟨hA0,hB0⟩:=uh HAc _ hS
 have p0:=cell_blk hA0 0 _ rfl
 have r0:=cell_blk hB0 0 _ rfl
 clear hA0 hB0
 rw[hw1] at p0 r0
 go_wp2_with fail
 rw[← hw1]
 refine(uh H0 _ hS).mono ?_
 rintro e W0 ⟨rfl,hb0⟩
 have hS:=hS.trans (below_le hb0 hS.size)
 clear hb0 p0 r0
 obtain⟨hA1,hB1⟩:=uh HAc _ hS
 have p1:=cell_blk hA1 1 _ rfl
 have r1:=cell_blk hB1 1 _ rfl
 clear hA1 hB1
 go_wp2_with fail
 refine(uh H1 _ hS).mono ?_
 rintro e W1 ⟨rfl,hb1⟩
 have hS:=hS.trans (below_le hb1 hS.size)
 clear hb1 p1 r1
 obtain⟨hA2,hB2⟩:=uh HAc _ hS
 have p2:=cell_blk hA2 2 _ rfl
 have r2:=cell_blk hB2 2 _ rfl
 clear hA2 hB2
 go_wp2_with fail
 refine(uh H2 _ hS).mono ?_
 rintro e W2 ⟨rfl,hb2⟩
 have hS:=hS.trans (below_le hb2 hS.size)
 clear hb2 p2 r2
 obtain⟨hA3,hB3⟩:=uh HAc _ hS
 have p3:=cell_blk hA3 3 _ rfl
 have r3:=cell_blk hB3 3 _ rfl
 clear hA3 hB3
 go_wp2_with fail
 refine(uh H3 _ hS).mono ?_
 rintro e W3 ⟨rfl,hb3⟩
 have hS:=hS.trans (below_le hb3 hS.size)
 clear hb3 p3 r3
 obtain⟨hA4,hB4⟩:=uh HAc _ hS
 have p4:=cell_blk hA4 4 _ rfl
 have r4:=cell_blk hB4 4 _ rfl
 clear hA4 hB4
 go_wp2_with fail
 refine(uh H4 _ hS).mono ?_
 rintro e W4 ⟨rfl,q4,rfl⟩
 have hS:=below_drewN hS q4
 clear p4 r4
 obtain⟨hA5,hB5⟩:=uh HAc _ hS
 have p5:=cell_blk hA5 5 _ rfl
 have r5:=cell_blk hB5 5 _ rfl
 clear hA5 hB5
 go_wp2_with fail
 refine(uh H5 _ hS).mono ?_
 rintro e W5 ⟨rfl,q5,rfl⟩
 have hS:=below_drewN hS q5
 clear p5 r5
 go_wp2
 go_ret
 rw[World.drewN_drewN] at hS
 exact⟨rfl,(uh Hb1).trans (below_le hS (uh Hb1).size)⟩
end Go.Proofs.YtagohbpbgjelaaaGreatDoor

namespace Go.Proofs.YtagohbpbgjelaaaGreatDoor
open Go.RowKit

set_option maxRecDepth 100000 in
theorem addr_add0 (b j:Nat):Addr.add ⟨b,0,none⟩ j=⟨b,j,none⟩:=by cases j <;> simp[Addr.add]
end Go.Proofs.YtagohbpbgjelaaaGreatDoor

namespace Go.Proofs.YtagohbpbgjelaaaGreatDoor
open Go.RowKit

theorem begB_cons {nk:Nat} {null:Nat→Bool} {F:Nat→Nat→Bool} (x:Int) (xs:List Int) (k:Nat):begB nk null F (x::xs) k=(begB nk null F [x] k || (emptyB nk null [x] && begB nk null F xs k)):=by
 have e:∀ ys:List Int,begB nk null F (x::ys) k=if x<nk then decide (k=x.toNat) else(F (x - nk).toNat k || (null (x - nk).toNat && begB nk null F ys k)):=fun ys=>by conv=>lhs;unfold begB
 have e0:begB nk null F [] k=false:=by unfold begB;rfl
 rw[e xs,e [],e0]
 unfold emptyB
 by_cases hx:x<nk
 · rw[if_pos hx,if_pos hx]
   have:decide ((nk:Int)≤x)=false:=by rw[decide_eq_false_iff_not];omega
   simp[this]
 · rw[if_neg hx,if_neg hx]
   have:decide ((nk:Int)≤x)=true:=by rw[decide_eq_true_eq];omega
   simp[this]
theorem emptyB_cons {nk:Nat} {null:Nat→Bool} (x:Int) (xs:List Int):emptyB nk null (x::xs)=(emptyB nk null [x] && emptyB nk null xs):=by
 unfold emptyB
 simp
theorem mem_posL {f : Nat → Bool} {n : Nat} {y : Int} : y ∈ posL (boolsOf f n) ↔ ∃ k : Nat, y = k ∧ k < n ∧ f k = true := by
 have key:∀ m,m≤n→(y ∈ posTo (boolsOf f n) m↔∃ k:Nat,y=k∧k<m∧f k=true):=by
   intro m
   induction m with
   | zero=>intro _;simp[posTo]
   | succ m ih =>
     intro hm
     unfold posTo
     rw[List.mem_append,ih (by omega),boolsOf_getD (by omega)]
     constructor
     · rintro(⟨k,h1,h2,h3⟩ | h)
       · exact⟨k,h1,by omega,h3⟩
       · split at h
         · simp at h
           exact⟨m,h,by omega,by assumption⟩
         · simp at h
     · rintro⟨k,h1,h2,h3⟩
       by_cases e:k=m
       · subst e
         right
         rw[if_pos h3]
         simp[h1]
       · exact .inl ⟨k,h1,by omega,h3⟩
 unfold posL
 rw[boolsOf_len]
 exact key n (Nat.le_refl _)
end Go.Proofs.YtagohbpbgjelaaaGreatDoor

/- The law's small grammar, and what is known of it. -/
import Derived.Test.YtagohbpbgjelaaaGreatDoorK2
import Derived.Test.YtagohbpbgjelaaaGreatDoorA4
import Derived.Test.YtagohbpbgjelaaaGreatDoorB1
import Derived.Test.YtagohbpbgjelaaaGreatDoorA5
import Derived.Test.YtagohbpbgjelaaaGreatDoorK1
namespace Go.Proofs.YtagohbpbgjelaaaGreatDoor
open Go.RowKit

def smallG:Gm:=⟨[[101,110,100],[101,114,114,111,114],[97],[98]],[(0,0),(0,0),(0,0),(0,0)],[[83],[65]],[⟨0,[5,3],0,ac0⟩,⟨1,[2,5],0,ac0⟩,⟨1,[],0,ac0⟩],0⟩
set_option maxRecDepth 100000 in
theorem small_ok:checkB smallG=true:=by kernel_rfl
set_option maxRecDepth 100000 in
theorem small_null : nullF smallG 0 = false ∧ nullF smallG 1 = true := by
 have h1:Null smallG 1:=Null.mk (G:=smallG) ⟨1,[],0,ac0⟩ (by simp[smallG]) (fun x hx=>by simp at hx) (fun x hx=>by simp at hx)
 refine⟨?_,(nullF_is _ _).2 h1⟩
 cases h:nullF smallG 0
 · rfl
 · exfalso
   have h:=(nullF_is _ _).1 h
   generalize hr:0=r at h
   cases h with
   | mk p hp h1 h2 =>
     simp[smallG] at hp
     rcases hp with rfl | rfl | rfl
     · have:=h1 3 (by simp)
       simp[Gm.nk,smallG] at this
     · simp at hr
     · simp at hr
set_option maxRecDepth 100000 in
theorem small_least {f : Nat → Int} (h : LeastIs smallG f) : f 0 = 1 := by
 have hA:Lng smallG 1 0:=by
   have:=Lng.mk (G:=smallG) ⟨1,[],0,ac0⟩ (by simp[smallG]) (fun _=>0) (fun x hx=>by simp at hx) (by simp[lenR])
   simpa [lenR] using this
 have hS:Lng smallG 0 1:=by
   have:=Lng.mk (G:=smallG) ⟨0,[5,3],0,ac0⟩ (by simp[smallG]) (fun _=>0) (fun x hx hk=>by
     simp at hx
     rcases hx with rfl | rfl
     · exact hA
     · simp[Gm.nk,smallG] at hk) (by decide)
   exact this
 have h1:=h.2 0 1 hS
 rcases h.1 0 with h2 | ⟨h2,-,h3⟩
 · omega
 · have h4:f 0≠0:=by
     intro h0
     rw[h0] at h3
     generalize hr:(0:Nat)=r at h3
     generalize hn:(0:Int)=n at h3
     cases h3 with
     | mk p hp g hg hl =>
       simp[smallG] at hp
       rcases hp with rfl | rfl | rfl
       · simp[lenR,Gm.nk,smallG] at hn hl
         split at hn <;> omega
       · simp at hr
       · simp at hr
   omega
set_option maxRecDepth 100000 in
theorem small_first : posL (boolsOf (fstF smallG 0) 4) = [2, 3] := by
 have hA:Fst smallG 1 2:=Fst.kind (G:=smallG) ⟨1,[2,5],0,ac0⟩ (by simp[smallG]) 0 (by simp) rfl (by decide)
 have h2:fstF smallG 0 2=true:=(fstF_is _ _ _).2 (Fst.rule (G:=smallG) ⟨0,[5,3],0,ac0⟩ (by simp[smallG]) 0 (by simp) rfl (by decide) 2 hA)
 have h3:fstF smallG 0 3=true:=(fstF_is _ _ _).2 (Fst.kind (G:=smallG) ⟨0,[5,3],0,ac0⟩ (by simp[smallG]) 1 (by simp) (by
   rw[emptyB_iff]
   intro x hx
   simp at hx
   subst hx
   exact⟨by decide,small_null.2⟩) (by decide))
 have hno:∀ r k,Fst smallG r k→2≤k:=by
   intro r k h
   induction h with
   | kind p hp i hi he hx =>
     simp[smallG] at hp
     rcases hp with rfl | rfl | rfl
     · rcases i with _ | _ | i
       · exact absurd hx (by decide)
       · decide
       · exact absurd hi (by simp)
     · rcases i with _ | _ | i
       · decide
       · exact absurd hx (by decide)
       · exact absurd hi (by simp)
     · simp at hi
   | rule p hp i hi he hx k h ih=>exact ih
 have h0:fstF smallG 0 0=false:=by
   cases h:fstF smallG 0 0
   · rfl
   · have:=hno _ _ ((fstF_is _ _ _).1 h);omega
 have h1:fstF smallG 0 1=false:=by
   cases h:fstF smallG 0 1
   · rfl
   · have:=hno _ _ ((fstF_is _ _ _).1 h);omega
 have:boolsOf (fstF smallG 0) 4=[false,false,true,true]:=by
   show [fstF smallG 0 0,fstF smallG 0 1,fstF smallG 0 2,fstF smallG 0 3]=_
   rw[h0,h1,h2,h3]
 rw[this]
 rfl

set_option maxRecDepth 100000 in
theorem five_cells {w:World} {b:Nat} {t:TypeId} {a0 a1 a2 a3 a4:Value} (h:w.heap[b]? = some (.cells #[a0,a1,a2,a3,a4] t)):w.cell? ⟨b,0,none⟩=some a0∧w.cell? ⟨b,1,none⟩=some a1∧w.cell? ⟨b,2,none⟩=some a2∧w.cell? ⟨b,3,none⟩=some a3∧w.cell? ⟨b,4,none⟩=some a4:=by
 refine⟨?_,?_,?_,?_,?_⟩ <;> (unfold World.cell?;rw[h];rfl)
set_option maxRecDepth 100000 in
theorem ac0_at (B:Nat) (w:World):AcAt B w ac0 (.int .i64 0) (.int .i64 0) (.string ⟨#[]⟩) (.slice none 0 0):=by
 unfold ac0 AcAt
 exact⟨rfl,rfl,rfl,none,0,[],rfl,by unfold AcTs;rfl,.inl rfl⟩
set_option maxRecDepth 100000 in
theorem allocs7 (w:World) (o0 o1 o2 o3 o4 o5 o6:Obj):(((((((w.alloc o0).alloc o1).alloc o2).alloc o3).alloc o4).alloc o5).alloc o6).heap[w.heap.size]? = some o0∧(((((((w.alloc o0).alloc o1).alloc o2).alloc o3).alloc o4).alloc o5).alloc o6).heap[w.heap.size+1]? = some o1∧(((((((w.alloc o0).alloc o1).alloc o2).alloc o3).alloc o4).alloc o5).alloc o6).heap[w.heap.size+1+1]? = some o2∧(((((((w.alloc o0).alloc o1).alloc o2).alloc o3).alloc o4).alloc o5).alloc o6).heap[w.heap.size+1+1+1]? = some o3∧(((((((w.alloc o0).alloc o1).alloc o2).alloc o3).alloc o4).alloc o5).alloc o6).heap[w.heap.size+1+1+1+1]? = some o4∧(((((((w.alloc o0).alloc o1).alloc o2).alloc o3).alloc o4).alloc o5).alloc o6).heap[w.heap.size+1+1+1+1+1]? = some o5∧(((((((w.alloc o0).alloc o1).alloc o2).alloc o3).alloc o4).alloc o5).alloc o6).heap[w.heap.size+1+1+1+1+1+1]? = some o6∧(((((((w.alloc o0).alloc o1).alloc o2).alloc o3).alloc o4).alloc o5).alloc o6).heap.size=w.heap.size+1+1+1+1+1+1+1∧Below w.heap.size w (((((((w.alloc o0).alloc o1).alloc o2).alloc o3).alloc o4).alloc o5).alloc o6):=by
 have s1:(w.alloc o0).heap.size=w.heap.size+1:=by simp
 have s2:((w.alloc o0).alloc o1).heap.size=w.heap.size+1+1:=by simp
 have s3:(((w.alloc o0).alloc o1).alloc o2).heap.size=w.heap.size+1+1+1:=by simp
 have s4:((((w.alloc o0).alloc o1).alloc o2).alloc o3).heap.size=w.heap.size+1+1+1+1:=by simp
 have s5:(((((w.alloc o0).alloc o1).alloc o2).alloc o3).alloc o4).heap.size=w.heap.size+1+1+1+1+1:=by simp
 have s6:((((((w.alloc o0).alloc o1).alloc o2).alloc o3).alloc o4).alloc o5).heap.size=w.heap.size+1+1+1+1+1+1:=by simp
 have s7:(((((((w.alloc o0).alloc o1).alloc o2).alloc o3).alloc o4).alloc o5).alloc o6).heap.size=w.heap.size+1+1+1+1+1+1+1:=by simp
 have b0_1:(w.alloc o0).heap[w.heap.size]? = some o0:=by have h:=Go.Deep.blk_alloc_new w o0;exact h
 have b0_2:((w.alloc o0).alloc o1).heap[w.heap.size]? = some o0:=(Below.heap_alloc _ _ _ (by rw[s1];omega)).trans b0_1
 have b0_3:(((w.alloc o0).alloc o1).alloc o2).heap[w.heap.size]? = some o0:=(Below.heap_alloc _ _ _ (by rw[s2];omega)).trans b0_2
 have b0_4:((((w.alloc o0).alloc o1).alloc o2).alloc o3).heap[w.heap.size]? = some o0:=(Below.heap_alloc _ _ _ (by rw[s3];omega)).trans b0_3
 have b0_5:(((((w.alloc o0).alloc o1).alloc o2).alloc o3).alloc o4).heap[w.heap.size]? = some o0:=(Below.heap_alloc _ _ _ (by rw[s4];omega)).trans b0_4
 have b0_6:((((((w.alloc o0).alloc o1).alloc o2).alloc o3).alloc o4).alloc o5).heap[w.heap.size]? = some o0:=(Below.heap_alloc _ _ _ (by rw[s5];omega)).trans b0_5
 have b0_7:(((((((w.alloc o0).alloc o1).alloc o2).alloc o3).alloc o4).alloc o5).alloc o6).heap[w.heap.size]? = some o0:=(Below.heap_alloc _ _ _ (by rw[s6];omega)).trans b0_6
 have b1_2:((w.alloc o0).alloc o1).heap[w.heap.size+1]? = some o1:=by have h:=Go.Deep.blk_alloc_new (w.alloc o0) o1;rw[s1] at h;exact h
 have b1_3:(((w.alloc o0).alloc o1).alloc o2).heap[w.heap.size+1]? = some o1:=(Below.heap_alloc _ _ _ (by rw[s2];omega)).trans b1_2
 have b1_4:((((w.alloc o0).alloc o1).alloc o2).alloc o3).heap[w.heap.size+1]? = some o1:=(Below.heap_alloc _ _ _ (by rw[s3];omega)).trans b1_3
 have b1_5:(((((w.alloc o0).alloc o1).alloc o2).alloc o3).alloc o4).heap[w.heap.size+1]? = some o1:=(Below.heap_alloc _ _ _ (by rw[s4];omega)).trans b1_4
 have b1_6:((((((w.alloc o0).alloc o1).alloc o2).alloc o3).alloc o4).alloc o5).heap[w.heap.size+1]? = some o1:=(Below.heap_alloc _ _ _ (by rw[s5];omega)).trans b1_5
 have b1_7:(((((((w.alloc o0).alloc o1).alloc o2).alloc o3).alloc o4).alloc o5).alloc o6).heap[w.heap.size+1]? = some o1:=(Below.heap_alloc _ _ _ (by rw[s6];omega)).trans b1_6
 have b2_3:(((w.alloc o0).alloc o1).alloc o2).heap[w.heap.size+1+1]? = some o2:=by have h:=Go.Deep.blk_alloc_new ((w.alloc o0).alloc o1) o2;rw[s2] at h;exact h
 have b2_4:((((w.alloc o0).alloc o1).alloc o2).alloc o3).heap[w.heap.size+1+1]? = some o2:=(Below.heap_alloc _ _ _ (by rw[s3];omega)).trans b2_3
 have b2_5:(((((w.alloc o0).alloc o1).alloc o2).alloc o3).alloc o4).heap[w.heap.size+1+1]? = some o2:=(Below.heap_alloc _ _ _ (by rw[s4];omega)).trans b2_4
 have b2_6:((((((w.alloc o0).alloc o1).alloc o2).alloc o3).alloc o4).alloc o5).heap[w.heap.size+1+1]? = some o2:=(Below.heap_alloc _ _ _ (by rw[s5];omega)).trans b2_5
 have b2_7:(((((((w.alloc o0).alloc o1).alloc o2).alloc o3).alloc o4).alloc o5).alloc o6).heap[w.heap.size+1+1]? = some o2:=(Below.heap_alloc _ _ _ (by rw[s6];omega)).trans b2_6
 have b3_4:((((w.alloc o0).alloc o1).alloc o2).alloc o3).heap[w.heap.size+1+1+1]? = some o3:=by have h:=Go.Deep.blk_alloc_new (((w.alloc o0).alloc o1).alloc o2) o3;rw[s3] at h;exact h
 have b3_5:(((((w.alloc o0).alloc o1).alloc o2).alloc o3).alloc o4).heap[w.heap.size+1+1+1]? = some o3:=(Below.heap_alloc _ _ _ (by rw[s4];omega)).trans b3_4
 have b3_6:((((((w.alloc o0).alloc o1).alloc o2).alloc o3).alloc o4).alloc o5).heap[w.heap.size+1+1+1]? = some o3:=(Below.heap_alloc _ _ _ (by rw[s5];omega)).trans b3_5
 have b3_7:(((((((w.alloc o0).alloc o1).alloc o2).alloc o3).alloc o4).alloc o5).alloc o6).heap[w.heap.size+1+1+1]? = some o3:=(Below.heap_alloc _ _ _ (by rw[s6];omega)).trans b3_6
 have b4_5:(((((w.alloc o0).alloc o1).alloc o2).alloc o3).alloc o4).heap[w.heap.size+1+1+1+1]? = some o4:=by have h:=Go.Deep.blk_alloc_new ((((w.alloc o0).alloc o1).alloc o2).alloc o3) o4;rw[s4] at h;exact h
 have b4_6:((((((w.alloc o0).alloc o1).alloc o2).alloc o3).alloc o4).alloc o5).heap[w.heap.size+1+1+1+1]? = some o4:=(Below.heap_alloc _ _ _ (by rw[s5];omega)).trans b4_5
 have b4_7:(((((((w.alloc o0).alloc o1).alloc o2).alloc o3).alloc o4).alloc o5).alloc o6).heap[w.heap.size+1+1+1+1]? = some o4:=(Below.heap_alloc _ _ _ (by rw[s6];omega)).trans b4_6
 have b5_6:((((((w.alloc o0).alloc o1).alloc o2).alloc o3).alloc o4).alloc o5).heap[w.heap.size+1+1+1+1+1]? = some o5:=by have h:=Go.Deep.blk_alloc_new (((((w.alloc o0).alloc o1).alloc o2).alloc o3).alloc o4) o5;rw[s5] at h;exact h
 have b5_7:(((((((w.alloc o0).alloc o1).alloc o2).alloc o3).alloc o4).alloc o5).alloc o6).heap[w.heap.size+1+1+1+1+1]? = some o5:=(Below.heap_alloc _ _ _ (by rw[s6];omega)).trans b5_6
 have b6_7:(((((((w.alloc o0).alloc o1).alloc o2).alloc o3).alloc o4).alloc o5).alloc o6).heap[w.heap.size+1+1+1+1+1+1]? = some o6:=by have h:=Go.Deep.blk_alloc_new ((((((w.alloc o0).alloc o1).alloc o2).alloc o3).alloc o4).alloc o5) o6;rw[s6] at h;exact h
 exact⟨b0_7,b1_7,b2_7,b3_7,b4_7,b5_7,b6_7,s7,((((((((Below.refl _ _).alloc (by omega) _).alloc (by rw[s1];omega) _).alloc (by rw[s2];omega) _).alloc (by rw[s3];omega) _).alloc (by rw[s4];omega) _).alloc (by rw[s5];omega) _).alloc (by rw[s6];omega) _)⟩

set_option maxHeartbeats 1000000 in
set_option maxRecDepth 100000 in
theorem rSmall (w : World) (ht : Tb w.heap.size w) :
   Calls Tryz.prog 57 #[] w fun e w'=>∃ ka kc pa pc ra rc qa qc,e=.returned (.agg #[.slice ka smallG.kinds.length kc,.slice pa smallG.precs.length pc,.slice ra smallG.rules.length rc,.slice qa smallG.prods.length qc,.int .i64 smallG.start])∧GIn w'.heap.size w' smallG ka pa ra qa∧Below w.heap.size w w':=by
 have hmk:∀ w:World,(Instr.makeSlice 23 (.int .i64 4) (.int .i64 4)).run Tryz.prog w=.ok (.slice (some ⟨w.heap.size,0,none⟩) 4 4) (w.alloc (.cells #[.int .i64 0,.int .i64 0,.int .i64 0,.int .i64 0,.int .i64 0,.int .i64 0,.int .i64 0,.int .i64 0] 98)):=fun w=>by kernel_rfl
 go_enter Tryz.func57,Tryz.ntmps57
 go_wp2
 have hall:=allocs7 w (.cells #[.slice (some ⟨w.heap.size+1+1+1+1,0,none⟩) 4 4,.slice (some ⟨w.heap.size+1+1+1+1+1,0,none⟩) 4 4,.slice (some ⟨w.heap.size+1+1+1+1+1+1,0,none⟩) 2 2,.slice (some ⟨w.heap.size+1+1+1,0,none⟩) 3 3,.int .i64 0] 26)
   (.cells #[.int .i64 5,.int .i64 3] 3) (.cells #[.int .i64 2,.int .i64 5] 3)
   (.cells #[.int .i64 0,.slice (some ⟨w.heap.size+1,0,none⟩) 2 2,.int .i64 0,.int .i64 0,.int .i64 0,.string ⟨#[]⟩,.slice none 0 0,.int .i64 1,.slice (some ⟨w.heap.size+1+1,0,none⟩) 2 2,.int .i64 0,.int .i64 0,.int .i64 0,.string ⟨#[]⟩,.slice none 0 0,.int .i64 1,.slice none 0 0,.int .i64 0,.int .i64 0,.int .i64 0,.string ⟨#[]⟩,.slice none 0 0] 89)
   (.cells #[.string ⟨#[101,110,100]⟩,.string ⟨#[101,114,114,111,114]⟩,.string ⟨#[97]⟩,.string ⟨#[98]⟩] 9)
   (.cells #[.int .i64 0,.int .i64 0,.int .i64 0,.int .i64 0,.int .i64 0,.int .i64 0,.int .i64 0,.int .i64 0] 98)
   (.cells #[.string ⟨#[83]⟩,.string ⟨#[65]⟩] 9)
 obtain⟨WF,hWF⟩:∃ WF,WF=(((((((w.alloc (.cells #[.slice (some ⟨w.heap.size+1+1+1+1,0,none⟩) 4 4,.slice (some ⟨w.heap.size+1+1+1+1+1,0,none⟩) 4 4,.slice (some ⟨w.heap.size+1+1+1+1+1+1,0,none⟩) 2 2,.slice (some ⟨w.heap.size+1+1+1,0,none⟩) 3 3,.int .i64 0] 26)).alloc (.cells #[.int .i64 5,.int .i64 3] 3)).alloc (.cells #[.int .i64 2,.int .i64 5] 3)).alloc (.cells #[.int .i64 0,.slice (some ⟨w.heap.size+1,0,none⟩) 2 2,.int .i64 0,.int .i64 0,.int .i64 0,.string ⟨#[]⟩,.slice none 0 0,.int .i64 1,.slice (some ⟨w.heap.size+1+1,0,none⟩) 2 2,.int .i64 0,.int .i64 0,.int .i64 0,.string ⟨#[]⟩,.slice none 0 0,.int .i64 1,.slice none 0 0,.int .i64 0,.int .i64 0,.int .i64 0,.string ⟨#[]⟩,.slice none 0 0] 89)).alloc (.cells #[.string ⟨#[101,110,100]⟩,.string ⟨#[101,114,114,111,114]⟩,.string ⟨#[97]⟩,.string ⟨#[98]⟩] 9)).alloc (.cells #[.int .i64 0,.int .i64 0,.int .i64 0,.int .i64 0,.int .i64 0,.int .i64 0,.int .i64 0,.int .i64 0] 98)).alloc (.cells #[.string ⟨#[83]⟩,.string ⟨#[65]⟩] 9)):=⟨_,rfl⟩
 rw[← hWF] at hall ⊢
 clear hWF hmk
 obtain⟨h0,h1,h2,h3,h4,h5,h6,hs,hb⟩:=hall
 obtain⟨c0,c1,c2,c3,c4⟩:=five_cells h0
 refine bodyPost_ret (v:=.agg #[.slice (some ⟨w.heap.size+1+1+1+1,0,none⟩) 4 4,.slice (some ⟨w.heap.size+1+1+1+1+1,0,none⟩) 4 4,.slice (some ⟨w.heap.size+1+1+1+1+1+1,0,none⟩) 2 2,.slice (some ⟨w.heap.size+1+1+1,0,none⟩) 3 3,.int .i64 0]) ?zz9 rfl ⟨_,4,_,4,_,2,_,3,rfl,⟨?_,?_,?_,?_,?_⟩,hb⟩
 case zz9=>simp[results,Tryz.results57,go_sem,c0,c1,c2,c3,c4]
 · refine .inr ⟨_,_,rfl,by omega,fun j hj=>?_⟩
   rcases j with _ | _ | _ | _ | j
   · unfold World.cell?;rw[h4];rfl
   · unfold World.cell?;rw[h4];rfl
   · unfold World.cell?;rw[h4];rfl
   · unfold World.cell?;rw[h4];rfl
   · exact absurd hj (by simp[smallG])
 · refine .inr ⟨_,_,rfl,by omega,fun j hj=>?_⟩
   rcases j with _ | _ | _ | _ | j
   · constructor <;> (unfold World.cell?;rw[h5];rfl)
   · constructor <;> (unfold World.cell?;rw[h5];rfl)
   · constructor <;> (unfold World.cell?;rw[h5];rfl)
   · constructor <;> (unfold World.cell?;rw[h5];rfl)
   · exact absurd hj (by simp[smallG])
 · refine .inr ⟨_,_,rfl,by omega,fun j hj=>?_⟩
   rcases j with _ | _ | j
   · unfold World.cell?;rw[h6];rfl
   · unfold World.cell?;rw[h6];rfl
   · exact absurd hj (by simp[smallG])
 · refine .inr ⟨_,_,rfl,by omega,fun j hj=>?_⟩
   rcases j with _ | _ | _ | j
   · refine⟨_,_,_,_,_,_,_,⟨rfl,⟨some ⟨w.heap.size+1,0,none⟩,2,rfl,.inr ⟨_,_,rfl,by omega,fun i hi=>?_⟩,by simp[smallG]⟩,rfl,ac0_at _ _⟩,?_,?_,?_,?_,?_,?_,?_⟩
     · rcases i with _ | _ | i
       · unfold World.cell?;rw[h1];rfl
       · unfold World.cell?;rw[h1];rfl
       · exact absurd hi (by simp[smallG])
     all_goals (unfold World.cell?;rw[h3];rfl)
   · refine⟨_,_,_,_,_,_,_,⟨rfl,⟨some ⟨w.heap.size+1+1,0,none⟩,2,rfl,.inr ⟨_,_,rfl,by omega,fun i hi=>?_⟩,by simp[smallG]⟩,rfl,ac0_at _ _⟩,?_,?_,?_,?_,?_,?_,?_⟩
     · rcases i with _ | _ | i
       · unfold World.cell?;rw[h2];rfl
       · unfold World.cell?;rw[h2];rfl
       · exact absurd hi (by simp[smallG])
     all_goals (unfold World.cell?;rw[h3];rfl)
   · refine⟨_,_,_,_,_,_,_,⟨rfl,⟨none,0,rfl,.inl rfl,by simp[smallG]⟩,rfl,ac0_at _ _⟩,?_,?_,?_,?_,?_,?_,?_⟩
     all_goals (unfold World.cell?;rw[h3];rfl)
   · exact absurd hj (by simp[smallG])
 · exact tb_up ht (Nat.le_refl _) hb
end Go.Proofs.YtagohbpbgjelaaaGreatDoor

namespace Go.Proofs.YtagohbpbgjelaaaGreatDoor
open Go.RowKit

abbrev gV (G:Gm) (ka pa ra qa:Option Addr) (kc pc rc qc:Nat):Value:=.agg #[.slice ka G.kinds.length kc,.slice pa G.precs.length pc,.slice ra G.rules.length rc,.slice qa G.prods.length qc,.int .i64 G.start]
def smG (G:Gm):Prop:=∀ p,p ∈ G.prods→p.right.length≤281474976710656
def LookPost (G : Gm) (w : World) (e : Ending) (w' : World) : Prop :=
 ∃ na nc pa pc aa ac ca cc fa fc va vc, e = .returned (.tuple #[.agg #[.slice na (boolsOf (nullF G) G.nr).length nc, .slice pa (boolsOf (prdF G) G.nr).length pc, .slice aa (boolsOf (atF G) G.nr).length ac, .slice ca (boolsOf (fun r => mksF G r r) G.nr).length cc, .slice fa (posT (fstF G) G.nk G.nr).length fc, .slice va (posT (flwF G) G.nk G.nr).length vc], .int .i64 0]) ∧
   MRow w' na (boolsOf (nullF G) G.nr)∧MRow w' pa (boolsOf (prdF G) G.nr)∧MRow w' aa (boolsOf (atF G) G.nr)∧MRow w' ca (boolsOf (fun r=>mksF G r r) G.nr)∧NNRow w' fa (posT (fstF G) G.nk G.nr)∧NNRow w' va (posT (flwF G) G.nk G.nr)∧Below w.heap.size w w'
def LookYes (fn:Nat):Prop:=∀ (G:Gm) (_:checkB G=true) (ka pa ra qa:Option Addr) (kc pc rc qc:Nat) (w:World) (_:GIn w.heap.size w G ka pa ra qa),Calls Tryz.prog fn #[gV G ka pa ra qa kc pc rc qc] w fun e w'=>LookPost G w e w'
def LookNo (fn:Nat):Prop:=∀ (G:Gm) (_:checkB G=false) (ka pa ra qa:Option Addr) (kc pc rc qc:Nat) (w:World) (_:GIn w.heap.size w G ka pa ra qa) (_:smG G),Calls Tryz.prog fn #[gV G ka pa ra qa kc pc rc qc] w fun e w'=>e=.returned (.tuple #[.agg #[.slice none 0 0,.slice none 0 0,.slice none 0 0,.slice none 0 0,.slice none 0 0,.slice none 0 0],.int .i64 130])∧Below w.heap.size w w'
def CheckC (fn:Nat):Prop:=∀ (G:Gm) (ka pa ra qa:Option Addr) (kc pc rc qc:Nat) (w:World) (_:GIn w.heap.size w G ka pa ra qa) (_:smG G),Calls Tryz.prog fn #[gV G ka pa ra qa kc pc rc qc] w fun e w'=>e=.returned (.int .i64 (checkV G))∧Below w.heap.size w w'
def LeastYes (fn:Nat):Prop:=∀ (G:Gm) (_:checkB G=true) (ka pa ra qa:Option Addr) (kc pc rc qc:Nat) (r:Nat) (_:r<G.rules.length) (w:World) (_:GIn w.heap.size w G ka pa ra qa),Calls Tryz.prog fn #[gV G ka pa ra qa kc pc rc qc,.int .i64 (r:Int)] w fun e w'=>∃ f,LeastIs G f∧e=.returned (.tuple #[.int .i64 (max (f r) 0),.bool (decide (0≤f r)),.int .i64 0])∧Below w.heap.size w w'
noncomputable def begL (G:Gm) (row:List Int):List Int:=posL (boolsOf (begB G.nk (nullF G) (fstF G) row) G.nk)
def FirstYes (fn:Nat):Prop:=∀ (G:Gm) (_:checkB G=true) (ka pa ra qa:Option Addr) (kc pc rc qc:Nat) (ro:Option Addr) (rowc:Nat) (row:List Int) (_:row.length≤281474976710656) (_:symsIn (G.kinds.length+G.rules.length) row) (w:World) (_:GIn w.heap.size w G ka pa ra qa) (_:NRow w.heap.size w ro row),Calls Tryz.prog fn #[gV G ka pa ra qa kc pc rc qc,.slice ro row.length rowc] w fun e w'=>∃ a c,e=.returned (.tuple #[.slice a (begL G row).length c,.bool (emptyB G.nk (nullF G) row),.int .i64 0])∧NRow w'.heap.size w' a (begL G row)∧Below w.heap.size w w'
def FirstOut (fn:Nat):Prop:=∀ (G:Gm) (_:checkB G=true) (ka pa ra qa:Option Addr) (kc pc rc qc:Nat) (ro:Option Addr) (rowc:Nat) (row:List Int) (_:row.length≤281474976710656) (_:¬ symsIn (G.kinds.length+G.rules.length) row) (w:World) (_:GIn w.heap.size w G ka pa ra qa) (_:NRow w.heap.size w ro row),Calls Tryz.prog fn #[gV G ka pa ra qa kc pc rc qc,.slice ro row.length rowc] w fun e w'=>e=.returned (.tuple #[.slice none 0 0,.bool false,.int .i64 1])∧Below w.heap.size w w'
def FirstNo (fn:Nat):Prop:=∀ (G:Gm) (_:checkB G=false) (ka pa ra qa:Option Addr) (kc pc rc qc:Nat) (ro:Option Addr) (rn rowc:Nat) (w:World) (_:GIn w.heap.size w G ka pa ra qa) (_:smG G),Calls Tryz.prog fn #[gV G ka pa ra qa kc pc rc qc,.slice ro rn rowc] w fun e w'=>e=.returned (.tuple #[.slice none 0 0,.bool false,.int .i64 130])∧Below w.heap.size w w'

set_option maxRecDepth 100000 in
theorem look7:LookYes 10:=fun G hc ka pa ra qa kc pc rc qc w hin=>by
 refine(rLook_yes G hc ka pa ra qa kc pc rc qc w.heap.size w (Nat.le_refl _) hin).mono ?_
 rintro e w' ⟨nb,pb,ab,cb,fa,fc,va,vc,rfl,h1,h2,h3,h4,h5,h6,h7⟩
 refine⟨some ⟨nb,0,none⟩,G.nr,some ⟨pb,0,none⟩,G.nr,some ⟨ab,0,none⟩,G.nr,some ⟨cb,0,none⟩,G.nr,fa,fc,va,vc,?_,mrow_rowIs h1,mrow_rowIs h2,mrow_rowIs h3,mrow_rowIs (f:=fun r=>mksF G r r) h4,h5,h6,h7⟩
 rw[boolsOf_len,boolsOf_len,boolsOf_len,boolsOf_len]
set_option maxRecDepth 100000 in
theorem lookno7:LookNo 10:=fun G hc ka pa ra qa kc pc rc qc w hin hsm=>rLook_no G hc ka pa ra qa kc pc rc qc w.heap.size w (Nat.le_refl _) hin hsm
set_option maxRecDepth 100000 in
theorem check11:CheckC 14:=fun G ka pa ra qa kc pc rc qc w hin hsm=>rCheck_any G ka pa ra qa kc pc rc qc w.heap.size w (Nat.le_refl _) hin hsm
set_option maxRecDepth 100000 in
theorem firstyes9:FirstYes 12:=fun G hc ka pa ra qa kc pc rc qc ro rowc row hl hs w hin hrow=>rFirst_yes G hc ka pa ra qa kc pc rc qc ro rowc row hl hs w.heap.size w (Nat.le_refl _) hin hrow
set_option maxRecDepth 100000 in
theorem inTo_syms {n:Nat} {row:List Int}:inTo n row row.length↔symsIn n row:=by
 constructor
 · intro h x hx
   obtain⟨i,hi,rfl⟩:=List.getElem_of_mem hx
   have:=h i hi
   rw[List.getD_eq_getElem?_getD,List.getElem?_eq_getElem hi] at this
   exact this
 · intro h i hi
   exact h _ (mem_getD hi)
set_option maxRecDepth 100000 in
theorem firstout9:FirstOut 12:=fun G hc ka pa ra qa kc pc rc qc ro rowc row hl hs w hin hrow=>rFirst_out G hc ka pa ra qa kc pc rc qc ro rowc row hl (fun h=>hs (inTo_syms.1 h)) w.heap.size w (Nat.le_refl _) hin hrow
set_option maxRecDepth 100000 in
theorem firstno9:FirstNo 12:=fun G hc ka pa ra qa kc pc rc qc ro rn rowc w hin hsm=>rFirst_no G hc ka pa ra qa kc pc rc qc ro rn rowc w.heap.size w (Nat.le_refl _) hin hsm
set_option maxRecDepth 100000 in
theorem gin_up {w w':World} {G:Gm} {ka pa ra qa:Option Addr} (h:GIn w.heap.size w G ka pa ra qa) (hb:Below w.heap.size w w'):GIn w'.heap.size w' G ka pa ra qa:=by
 have h:=gin_kept hb h
 have hs:=hb.size
 have ht:=tb_up h.tab (by omega) (Below.refl _ _)
 obtain⟨h1,h2,h3,h4,-⟩:=h
 refine⟨?_,?_,?_,?_,ht⟩
 · rcases h1 with h | ⟨b,o,a1,a2,a3⟩
   · exact .inl h
   · exact .inr ⟨b,o,a1,by omega,a3⟩
 · rcases h2 with h | ⟨b,o,a1,a2,a3⟩
   · exact .inl h
   · exact .inr ⟨b,o,a1,by omega,a3⟩
 · rcases h3 with h | ⟨b,o,a1,a2,a3⟩
   · exact .inl h
   · exact .inr ⟨b,o,a1,by omega,a3⟩
 · rcases h4 with h | ⟨b,o,a1,a2,a3⟩
   · exact .inl h
   · refine .inr ⟨b,o,a1,by omega,fun j hj=>?_⟩
     obtain⟨v0,v1,v2,v3,v4,v5,v6,⟨p0,⟨a,c,p1,p2,p3⟩,p4,p5⟩,hc⟩:=a3 j hj
     exact⟨v0,v1,v2,v3,v4,v5,v6,⟨p0,⟨a,c,p1,nrow_big hs p2,p3⟩,p4,acAt_upB hs _ _ _ _ _ p5⟩,hc⟩

set_option maxHeartbeats 2000000 in
set_option maxRecDepth 100000 in
theorem awake_any (hL:LookYes 9) (hM:LeastYes 24) (w:World) (ht:Tb w.heap.size w):Calls Tryz.prog 17 #[] w fun e w'=>e=.returned (.bool true)∧Below w.heap.size w w':=by
 have HS:=hide (rSmall w ht)
 have HL:=hide hL;have HM:=hide hM
 clear hL hM
 have hnot:=run_not
 go_enter Tryz.func17,Tryz.ntmps17
 go_wp2_with fail
 refine(uh HS).mono ?_
 rintro e w2 ⟨ka,kc,pa,pc,ra,rc,qa,qc,rfl,hin,hb2⟩
 have hst:=gst_new (kc:=kc) (pc:=pc) (rc:=rc) (qc:=qc) (Nat.le_refl _) hin 26
 have d0:=hst.c0;have d1:=hst.c1;have d2:=hst.c2;have d3:=hst.c3;have d4:=hst.c4
 have hb3:=(Below.refl w2.heap.size w2).alloc (Nat.le_refl _) (.cells #[.slice ka smallG.kinds.length kc,.slice pa smallG.precs.length pc,.slice ra smallG.rules.length rc,.slice qa smallG.prods.length qc,.int .i64 smallG.start] 26)
 have HL3:=hide (uh HL smallG small_ok ka pa ra qa kc pc rc qc _ (gin_up hin hb3))
 have Hin:=hide hin
 have hs2:=hb2.size
 have Hb3:=hide (hb2.trans (below_le hb3 hs2))
 have Hst:=hide hst
 have hs3:(w2.alloc (.cells #[.slice ka smallG.kinds.length kc,.slice pa smallG.precs.length pc,.slice ra smallG.rules.length rc,.slice qa smallG.prods.length qc,.int .i64 smallG.start] 26)).heap.size=w2.heap.size+1:=by simp
 have Hbb:=hide hb3
 clear hin hst hb2 hb3 HL HS
 go_wp2_with fail
 generalize w2.alloc (.cells #[.slice ka smallG.kinds.length kc,.slice pa smallG.precs.length pc,.slice ra smallG.rules.length rc,.slice qa smallG.prods.length qc,.int .i64 smallG.start] 26)=w3 at *
 clear d0 d1 d2 d3 d4
 refine(uh HL3).mono ?_
 rintro e w4 ⟨na,nc,pr,prc,aa,ac,ca,cc,fa,fc,va,vc,he,hna,-,-,-,hfa,-,hb4⟩
 have l0:(boolsOf (nullF smallG) smallG.nr).length=2:=boolsOf_len _ _
 have l1:(boolsOf (prdF smallG) smallG.nr).length=2:=boolsOf_len _ _
 have l2:(boolsOf (atF smallG) smallG.nr).length=2:=boolsOf_len _ _
 have l3:(boolsOf (fun r=>mksF smallG r r) smallG.nr).length=2:=boolsOf_len _ _
 have l4:(posT (fstF smallG) smallG.nk smallG.nr).length=2:=by simp[posT];rfl
 have l5:(posT (flwF smallG) smallG.nk smallG.nr).length=2:=by simp[posT];rfl
 rw[l0,l1,l2,l3,l4,l5] at he
 subst he
 obtain⟨b0,o0,rfl,hlt0,n0⟩:=mrow_at hna (k:=0) (by omega)
 obtain⟨b1,o1,hbo,hlt1,n1⟩:=mrow_at hna (k:=1) (by omega)
 cases hbo
 rw[boolsOf_getD (by decide),small_null.1] at n0
 rw[boolsOf_getD (by decide),small_null.2] at n1
 obtain⟨b4,o4,rfl,hlt4,ra4,rc4,f0,-⟩:=nnrow_at hfa (k:=0) (by omega)
 have hf0:(posT (fstF smallG) smallG.nk smallG.nr).getD 0 []=[2,3]:=by
   have:(posT (fstF smallG) smallG.nk smallG.nr).getD 0 []=posL (boolsOf (fstF smallG 0) 4):=rfl
   rw[this,small_first]
 rw[hf0] at f0
 have f0:w4.cell? ⟨b4,o4+0,none⟩=some (.slice ra4 2 rc4):=f0
 have hst4:=gst_kept (below_le hb4 (by omega)) (Nat.le_refl _) (uh Hst)
 have hs4:=hb4.size
 obtain⟨w5,hw5⟩:∃ w5,w5=w4.alloc (.cells #[.slice (some ⟨b0,o0,none⟩) 2 nc,.slice pr 2 prc,.slice aa 2 ac,.slice ca 2 cc,.slice (some ⟨b4,o4,none⟩) 2 fc,.slice va 2 vc] 31):=⟨_,rfl⟩
 have hb5:Below w4.heap.size w4 w5:=by rw[hw5];exact(Below.refl _ _).alloc (Nat.le_refl _) _
 have hs5:w5.heap.size=w4.heap.size+1:=by rw[hw5];simp
 have hbx:w5.heap[w4.heap.size]? = some (.cells #[.slice (some ⟨b0,o0,none⟩) 2 nc,.slice pr 2 prc,.slice aa 2 ac,.slice ca 2 cc,.slice (some ⟨b4,o4,none⟩) 2 fc,.slice va 2 vc] 31):=by rw[hw5];exact Go.Deep.blk_alloc_new _ _
 have hst5:=gst_kept (below_le hb5 (by omega)) (Nat.le_refl _) hst4
 have d0:=hst5.c0;have d1:=hst5.c1;have d2:=hst5.c2;have d3:=hst5.c3;have d4:=hst5.c4
 have HM5:Hid (Calls Tryz.prog 24 #[gV smallG ka pa ra qa kc pc rc qc,.int .i64 0] w5 fun e w'=>∃ f,LeastIs smallG f∧e=.returned (.tuple #[.int .i64 (max (f 0) 0),.bool (decide (0≤f 0)),.int .i64 0])∧Below w5.heap.size w5 w'):=hide (uh HM smallG small_ok ka pa ra qa kc pc rc qc 0 (by decide) w5 (gin_up (uh Hin) (((uh Hbb).trans (below_le hb4 (by omega))).trans (below_le hb5 (by omega)))))
 have Hn0:=hide ((hb5.cell (p:=⟨b0,o0+0,none⟩) hlt0).trans n0)
 have Hn1:=hide ((hb5.cell (p:=⟨b0,o0+1,none⟩) hlt0).trans n1)
 have Hf0:=hide ((hb5.cell (p:=⟨b4,o4+0,none⟩) hlt4).trans f0)
 have Hbx:=hide hbx
 have Hb5:=hide ((uh Hb3).trans ((below_le hb4 (by omega)).trans (below_le hb5 (by omega))))
 rw[hw5] at d0 d1 d2 d3 d4
 clear hna hfa hb4 l0 l1 l2 l3 l4 l5 n0 n1 f0 hf0 hst4 hst5 hbx hb5 HL3 HM
 go_wp2_with fail
 rw[← hw5]
 clear d0 d1 d2 d3 d4 hw5
 refine(uh HM5).mono ?_
 rintro e w6 ⟨f,hf,he,hb6⟩
 rw[small_least hf] at he
 have he:e=.returned (.tuple #[.int .i64 1,.bool true,.int .i64 0]):=he
 subst he
 have hbx6:=(hb6.block _ (by omega)).trans (uh Hbx)
 obtain⟨r0,-,-,-,r4,-⟩:=six_cells hbx6
 have n0:=(hb6.cell (p:=⟨b0,o0+0,none⟩) (by show b0<w5.heap.size;omega)).trans (uh Hn0)
 have n1:=(hb6.cell (p:=⟨b0,o0+1,none⟩) (by show b0<w5.heap.size;omega)).trans (uh Hn1)
 have f0:=(hb6.cell (p:=⟨b4,o4+0,none⟩) (by show b4<w5.heap.size;omega)).trans (uh Hf0)
 have Hb6:=hide ((uh Hb5).trans (below_le hb6 (by omega)))
 rw[Nat.add_zero] at n0 f0
 clear hb6 hf hbx6
 go_wp2
 go_ret
 exact⟨rfl,uh Hb6⟩
end Go.Proofs.YtagohbpbgjelaaaGreatDoor

namespace Go.Proofs.YtagohbpbgjelaaaGreatDoor
open Go.RowKit

noncomputable def lkN (G:Gm):List Bool:=if checkB G then boolsOf (nullF G) G.nr else[]
noncomputable def lkP (G:Gm):List Bool:=if checkB G then boolsOf (prdF G) G.nr else[]
noncomputable def lkA (G:Gm):List Bool:=if checkB G then boolsOf (atF G) G.nr else[]
noncomputable def lkC (G:Gm):List Bool:=if checkB G then boolsOf (fun r=>mksF G r r) G.nr else[]
noncomputable def lkF (G:Gm):List (List Int):=if checkB G then posT (fstF G) G.nk G.nr else[]
noncomputable def lkV (G:Gm):List (List Int):=if checkB G then posT (flwF G) G.nk G.nr else[]
def RepAt (G:Gm) (w':World) (na pa aa ca fa va:Option Addr):Prop:=MRow w' na (lkN G)∧MRow w' pa (lkP G)∧MRow w' aa (lkA G)∧MRow w' ca (lkC G)∧NNRow w' fa (lkF G)∧NNRow w' va (lkV G)
def LookC (fn:Nat):Prop:=∀ (G:Gm) (ka pa ra qa:Option Addr) (kc pc rc qc:Nat) (w:World) (_:GIn w.heap.size w G ka pa ra qa) (_:smG G),Calls Tryz.prog fn #[gV G ka pa ra qa kc pc rc qc] w fun e w' =>
 ∃ na nc xa xc aa ac ca cc fa fc va vc,e=.returned (.tuple #[.agg #[.slice na (lkN G).length nc,.slice xa (lkP G).length xc,.slice aa (lkA G).length ac,.slice ca (lkC G).length cc,.slice fa (lkF G).length fc,.slice va (lkV G).length vc],.int .i64 (checkV G)])∧RepAt G w' na xa aa ca fa va∧Below w.heap.size w w'
set_option maxRecDepth 100000 in
theorem lookC_of {fn:Nat} (h1:LookYes fn) (h2:LookNo fn):LookC fn:=fun G ka pa ra qa kc pc rc qc w hin hsm=>by
 cases hc:checkB G
 · refine(h2 G hc ka pa ra qa kc pc rc qc w hin hsm).mono ?_
   rintro e w' ⟨rfl,hb⟩
   refine⟨none,0,none,0,none,0,none,0,none,0,none,0,?_,?_,hb⟩
   · unfold lkN lkP lkA lkC lkF lkV checkV;rw[hc];rfl
   · unfold RepAt lkN lkP lkA lkC lkF lkV;rw[hc]
     exact⟨.inl rfl,.inl rfl,.inl rfl,.inl rfl,.inl rfl,.inl rfl⟩
 · refine(h1 G hc ka pa ra qa kc pc rc qc w hin).mono ?_
   rintro e w' ⟨na,nc,xa,xc,aa,ac,ca,cc,fa,fc,va,vc,rfl,r0,r1,r2,r3,r4,r5,hb⟩
   refine⟨na,nc,xa,xc,aa,ac,ca,cc,fa,fc,va,vc,?_,?_,hb⟩
   · unfold lkN lkP lkA lkC lkF lkV checkV;rw[hc];rfl
   · unfold RepAt lkN lkP lkA lkC lkF lkV;rw[hc]
     exact⟨r0,r1,r2,r3,r4,r5⟩
noncomputable def fsL (G:Gm) (row:List Int):List Int:=open Classical in if checkB G=true∧symsIn (G.kinds.length+G.rules.length) row then begL G row else[]
noncomputable def fsE (G:Gm) (row:List Int):Bool:=open Classical in if checkB G=true∧symsIn (G.kinds.length+G.rules.length) row then emptyB G.nk (nullF G) row else false
noncomputable def fsV (G:Gm) (row:List Int):Int:=open Classical in if checkB G=true then(if symsIn (G.kinds.length+G.rules.length) row then 0 else 1) else 130
def FirstC (fn:Nat):Prop:=∀ (G:Gm) (ka pa ra qa:Option Addr) (kc pc rc qc:Nat) (ro:Option Addr) (rowc:Nat) (row:List Int) (_:row.length≤281474976710656) (w:World) (_:GIn w.heap.size w G ka pa ra qa) (_:smG G) (_:NRow w.heap.size w ro row),Calls Tryz.prog fn #[gV G ka pa ra qa kc pc rc qc,.slice ro row.length rowc] w fun e w' =>
 ∃ a c,e=.returned (.tuple #[.slice a (fsL G row).length c,.bool (fsE G row),.int .i64 (fsV G row)])∧NRow w'.heap.size w' a (fsL G row)∧Below w.heap.size w w'
set_option maxRecDepth 100000 in
theorem firstC_of {fn:Nat} (h1:FirstYes fn) (h2:FirstOut fn) (h3:FirstNo fn):FirstC fn:=fun G ka pa ra qa kc pc rc qc ro rowc row hl w hin hsm hrow=>by
 cases hc:checkB G
 · refine(h3 G hc ka pa ra qa kc pc rc qc ro _ rowc w hin hsm).mono ?_
   rintro e w' ⟨rfl,hb⟩
   refine⟨none,0,?_,?_,hb⟩
   · unfold fsL fsE fsV;rw[hc];simp
   · unfold fsL;rw[hc];simp;exact .inl rfl
 · by_cases hs:symsIn (G.kinds.length+G.rules.length) row
   · refine(h1 G hc ka pa ra qa kc pc rc qc ro rowc row hl hs w hin hrow).mono ?_
     rintro e w' ⟨a,c,rfl,hr,hb⟩
     refine⟨a,c,?_,?_,hb⟩
     · unfold fsL fsE fsV;rw[if_pos ⟨hc,hs⟩,if_pos ⟨hc,hs⟩,if_pos hc,if_pos hs]
     · unfold fsL;rw[if_pos ⟨hc,hs⟩];exact hr
   · refine(h2 G hc ka pa ra qa kc pc rc qc ro rowc row hl hs w hin hrow).mono ?_
     rintro e w' ⟨rfl,hb⟩
     refine⟨none,0,?_,?_,hb⟩
     · unfold fsL fsE fsV;rw[if_neg (fun h=>hs h.2),if_neg (fun h=>hs h.2),if_pos hc,if_neg hs];rfl
     · unfold fsL;rw[if_neg (fun h=>hs h.2)];exact .inl rfl
set_option maxRecDepth 100000 in
theorem lk_len {G:Gm}:(lkN G).length≤2048∧(lkP G).length≤2048∧(lkA G).length≤2048∧(lkC G).length≤2048∧(lkF G).length≤2048∧(lkV G).length≤2048:=by
 unfold lkN lkP lkA lkC lkF lkV
 cases hc:checkB G
 · simp
 · have:=(check_ok hc).r2
   simp[boolsOf,posT]
   exact this
set_option maxRecDepth 100000 in
theorem posL_len (f:Nat→Bool) (n:Nat):(posL (boolsOf f n)).length≤n:=by
 have:=posTo_le (boolsOf f n) (boolsOf f n).length
 rw[boolsOf_len] at this
 unfold posL
 rw[boolsOf_len]
 exact this
set_option maxRecDepth 100000 in
theorem lk_rows {G:Gm}:(∀ l,l ∈ lkF G→l.length≤1024)∧∀ l,l ∈ lkV G→l.length≤1024:=by
 unfold lkF lkV
 cases hc:checkB G
 · simp
 · have:=(check_ok hc).k3
   simp only[if_true,posT,List.mem_map]
   constructor
   · rintro l ⟨r,-,rfl⟩;have:=posL_len (fstF G r) G.nk;omega
   · rintro l ⟨r,-,rfl⟩;have:=posL_len (flwF G r) G.nk;omega
set_option maxRecDepth 100000 in
theorem fsL_len {G:Gm} {row:List Int}:(fsL G row).length≤1024:=by
 unfold fsL
 split
 · rename_i h
   have:=(check_ok h.1).k3
   have:=posL_len (begB G.nk (nullF G) (fstF G) row) G.nk
   unfold begL
   omega
 · simp
set_option maxRecDepth 100000 in
theorem repAt_up {G:Gm} {w w':World} {na pa aa ca fa va:Option Addr} (h:RepAt G w na pa aa ca fa va) (hb:Below w.heap.size w w'):RepAt G w' na pa aa ca fa va :=
 ⟨mrow_below h.1 hb,mrow_below h.2.1 hb,mrow_below h.2.2.1 hb,mrow_below h.2.2.2.1 hb,nnrow_up h.2.2.2.2.1 hb,nnrow_up h.2.2.2.2.2 hb⟩
set_option maxRecDepth 100000 in
theorem look7C:LookC 10:=lookC_of look7 lookno7
set_option maxRecDepth 100000 in
theorem first9C:FirstC 12:=firstC_of firstyes9 firstout9 firstno9
set_option maxRecDepth 100000 in
theorem sameReport_rep {G:Gm} {na xa aa ca fa va na' xa' aa' ca' fa' va':Option Addr} (nc xc ac cc fc vc nc' xc' ac' cc' fc' vc':Nat) (w:World) (h1:RepAt G w na xa aa ca fa va) (h2:RepAt G w na' xa' aa' ca' fa' va') :
   Calls Tryz.prog 15 #[.agg #[.slice na (lkN G).length nc,.slice xa (lkP G).length xc,.slice aa (lkA G).length ac,.slice ca (lkC G).length cc,.slice fa (lkF G).length fc,.slice va (lkV G).length vc],.agg #[.slice na' (lkN G).length nc',.slice xa' (lkP G).length xc',.slice aa' (lkA G).length ac',.slice ca' (lkC G).length cc',.slice fa' (lkF G).length fc',.slice va' (lkV G).length vc']] w fun e w'=>e=.returned (.bool true)∧Below w.heap.size w w':=by
 have hl:=lk_len (G:=G)
 have hr:=lk_rows (G:=G)
 exact rSameReport_eq na xa aa ca fa va na' xa' aa' ca' fa' va' nc xc ac cc fc vc nc' xc' ac' cc' fc' vc' _ _ _ _ _ _ w h1.1 h2.1 (by omega) h1.2.1 h2.2.1 (by omega) h1.2.2.1 h2.2.2.1 (by omega) h1.2.2.2.1 h2.2.2.2.1 (by omega) h1.2.2.2.2.1 h2.2.2.2.2.1 (by omega) (fun l h=>by have:=hr.1 l h;omega) h1.2.2.2.2.2 h2.2.2.2.2.2 (by omega) (fun l h=>by have:=hr.2 l h;omega)
end Go.Proofs.YtagohbpbgjelaaaGreatDoor

namespace Go.Proofs.YtagohbpbgjelaaaGreatDoor
open Go.RowKit

set_option maxHeartbeats 4000000 in
set_option maxRecDepth 100000 in
theorem looks_walk (hL:LookC 9) (hF:FirstC 11) (hC:CheckC 13) (hLY:LookYes 9) (hMY:LeastYes 24) (G:Gm) (ka pa ra qa:Option Addr) (kc pc rc qc:Nat) (ro:Option Addr) (rowc:Nat) (row:List Int) (hrl:row.length≤281474976710656) (w:World) (hin:GIn w.heap.size w G ka pa ra qa) (hsm:smG G) (hrow:NRow w.heap.size w ro row) :
   Calls Tryz.prog 3 #[.agg #[.slice ka G.kinds.length kc,.slice pa G.precs.length pc,.slice ra G.rules.length rc,.slice qa G.prods.length qc,.int .i64 G.start],.slice ro row.length rowc] w fun e w'=>e=.returned (.bool true)∧Below w.heap.size w w':=by
 have hst:=gst_new (kc:=kc) (pc:=pc) (rc:=rc) (qc:=qc) (Nat.le_refl _) hin 26
 have hb1:=(Below.refl w.heap.size w).alloc (Nat.le_refl _) (.cells #[.slice ka G.kinds.length kc,.slice pa G.precs.length pc,.slice ra G.rules.length rc,.slice qa G.prods.length qc,.int .i64 G.start] 26)
 have hs1:(w.alloc (.cells #[.slice ka G.kinds.length kc,.slice pa G.precs.length pc,.slice ra G.rules.length rc,.slice qa G.prods.length qc,.int .i64 G.start] 26)).heap.size=w.heap.size+1:=by simp
 have d0:=hst.c0;have d1:=hst.c1;have d2:=hst.c2;have d3:=hst.c3;have d4:=hst.c4
 have HL:=hide hL;have HF:=hide hF;have HC:=hide hC;have HAw:=hide (fun(W:World) (hW:Below w.heap.size w W)=>awake_any hLY hMY W (tb_up hin.tab (Nat.le_refl _) hW))
 have H6:=hide (hL G ka pa ra qa kc pc rc qc _ (gin_up hin hb1) hsm)
 have Hin:=hide hin;have Hsm:=hide hsm;have Hrow:=hide hrow;have Hb1:=hide hb1;have Hst:=hide hst
 clear hL hF hC hLY hMY hin hsm hrow hb1 hst
 go_enter Tryz.func3,Tryz.ntmps3
 go_wp2_with fail
 clear d0 d1 d2 d3 d4
 generalize w.alloc (.cells #[.slice ka G.kinds.length kc,.slice pa G.precs.length pc,.slice ra G.rules.length rc,.slice qa G.prods.length qc,.int .i64 G.start] 26)=w1 at *
 refine(uh H6).mono ?_
 rintro e w2 ⟨a0,m0,a1,m1,a2,m2,a3,m3,a4,m4,a5,m5,rfl,hr2,hb2⟩
 -- the first report's box
 obtain⟨w3,hw3⟩:∃ w3,w3=w2.alloc (.cells #[.slice a0 (lkN G).length m0,.slice a1 (lkP G).length m1,.slice a2 (lkA G).length m2,.slice a3 (lkC G).length m3,.slice a4 (lkF G).length m4,.slice a5 (lkV G).length m5] 31):=⟨_,rfl⟩
 have hb3:Below w2.heap.size w2 w3:=by rw[hw3];exact(Below.refl _ _).alloc (Nat.le_refl _) _
 have hs3:w3.heap.size=w2.heap.size+1:=by rw[hw3];simp
 have hx3:w3.heap[w2.heap.size]? = some (.cells #[.slice a0 (lkN G).length m0,.slice a1 (lkP G).length m1,.slice a2 (lkA G).length m2,.slice a3 (lkC G).length m3,.slice a4 (lkF G).length m4,.slice a5 (lkV G).length m5] 31):=by rw[hw3];exact Go.Deep.blk_alloc_new _ _
 have hs2:=hb2.size
 have hb13:=hb2.trans (below_le hb3 (by omega))
 have hst3:=gst_kept (below_le hb13 (by omega)) (Nat.le_refl _) (uh Hst)
 have d0:=hst3.c0;have d1:=hst3.c1;have d2:=hst3.c2;have d3:=hst3.c3;have d4:=hst3.c4
 have H7:=hide (look7C G ka pa ra qa kc pc rc qc w3 (gin_up (uh Hin) ((uh Hb1).trans (below_le hb13 (by omega)))) (uh Hsm))
 have Hr3:=hide (repAt_up hr2 hb3);have Hx3:=hide hx3;have Hb3:=hide ((uh Hb1).trans (below_le hb13 (by omega)));have Hst3:=hide hst3
 rw[hw3] at d0 d1 d2 d3 d4
 clear hr2 hb2 hb3 hx3 hb13 hst3 H6
 go_wp2_with fail
 rw[← hw3]
 clear d0 d1 d2 d3 d4 hw3
 refine(uh H7).mono ?_
 rintro e w4 ⟨b0,n0,b1,n1,b2,n2,b3,n3,b4,n4,b5,n5,rfl,hr4,hb4⟩
 obtain⟨w5,hw5⟩:∃ w5,w5=w4.alloc (.cells #[.slice b0 (lkN G).length n0,.slice b1 (lkP G).length n1,.slice b2 (lkA G).length n2,.slice b3 (lkC G).length n3,.slice b4 (lkF G).length n4,.slice b5 (lkV G).length n5] 31):=⟨_,rfl⟩
 have hb5:Below w4.heap.size w4 w5:=by rw[hw5];exact(Below.refl _ _).alloc (Nat.le_refl _) _
 have hs5:w5.heap.size=w4.heap.size+1:=by rw[hw5];simp
 have hx5:w5.heap[w4.heap.size]? = some (.cells #[.slice b0 (lkN G).length n0,.slice b1 (lkP G).length n1,.slice b2 (lkA G).length n2,.slice b3 (lkC G).length n3,.slice b4 (lkF G).length n4,.slice b5 (lkV G).length n5] 31):=by rw[hw5];exact Go.Deep.blk_alloc_new _ _
 have hs4:=hb4.size
 have hb35:=hb4.trans (below_le hb5 (by omega))
 have hst5:=gst_kept (below_le hb35 (by omega)) (Nat.le_refl _) (uh Hst3)
 have d0:=hst5.c0;have d1:=hst5.c1;have d2:=hst5.c2;have d3:=hst5.c3;have d4:=hst5.c4
 have hbw5:=(uh Hb3).trans (below_le hb35 (by omega))
 have H8:=hide (uh HF G ka pa ra qa kc pc rc qc ro rowc row hrl w5 (gin_up (uh Hin) hbw5) (uh Hsm) (nrow_up (uh Hrow) hbw5))
 have Hr5:=hide (show RepAt G w5 a0 a1 a2 a3 a4 a5∧RepAt G w5 b0 b1 b2 b3 b4 b5 from⟨repAt_up (uh Hr3) hb35,repAt_up hr4 hb5⟩)
 have Hx5:=hide (show w5.heap[w2.heap.size]? = some (.cells #[.slice a0 (lkN G).length m0,.slice a1 (lkP G).length m1,.slice a2 (lkA G).length m2,.slice a3 (lkC G).length m3,.slice a4 (lkF G).length m4,.slice a5 (lkV G).length m5] 31)∧w5.heap[w4.heap.size]? = some (.cells #[.slice b0 (lkN G).length n0,.slice b1 (lkP G).length n1,.slice b2 (lkA G).length n2,.slice b3 (lkC G).length n3,.slice b4 (lkF G).length n4,.slice b5 (lkV G).length n5] 31) from⟨(hb35.block _ (by omega)).trans (uh Hx3),hx5⟩)
 have Hb5:=hide hbw5;have Hst5:=hide hst5
 rw[hw5] at d0 d1 d2 d3 d4
 clear hr4 hb4 hb5 hx5 hb35 hst5 hbw5 H7 Hr3 Hx3 Hb3 Hst3
 go_wp2_with fail
 rw[← hw5]
 clear d0 d1 d2 d3 d4 hw5
 refine(uh H8).mono ?_
 rintro e w6 ⟨ca,cc,rfl,hr6,hb6⟩
 have hs6:=hb6.size
 have hst6:=gst_kept (below_le hb6 (by omega)) (Nat.le_refl _) (uh Hst5)
 have d0:=hst6.c0;have d1:=hst6.c1;have d2:=hst6.c2;have d3:=hst6.c3;have d4:=hst6.c4
 have hbw6:=(uh Hb5).trans (below_le hb6 (by omega))
 have H9:=hide (first9C G ka pa ra qa kc pc rc qc ro rowc row hrl w6 (gin_up (uh Hin) hbw6) (uh Hsm) (nrow_up (uh Hrow) hbw6))
 have Hr6:=hide hr6;have Hb6:=hide hb6;have Hst6:=hide hst6;have Hbw6:=hide hbw6
 clear hr6 hb6 hst6 hbw6 H8
 go_wp2_with fail
 clear d0 d1 d2 d3 d4
 refine(uh H9).mono ?_
 rintro e w7 ⟨da,dc,rfl,hr7,hb7⟩
 have hs7:=hb7.size
 have hst7:=gst_kept (below_le hb7 (by omega)) (Nat.le_refl _) (uh Hst6)
 have hb57:=(uh Hb6).trans (below_le hb7 (by omega))
 have hbw7:=(uh Hbw6).trans (below_le hb7 (by omega))
 have hra:=repAt_up (uh Hr5).1 hb57
 have hrb:=repAt_up (uh Hr5).2 hb57
 have hxa:=(hb57.block _ (by omega)).trans (uh Hx5).1
 have hxb:=(hb57.block _ (by omega)).trans (uh Hx5).2
 have hrc:=nrow_up (uh Hr6) hb7
 have HS:Hid (∀ W:World,Below w7.heap.size w7 W→W.cell? ⟨w.heap.size,0,none⟩=some (.slice ka G.kinds.length kc)∧W.cell? ⟨w.heap.size,1,none⟩=some (.slice pa G.precs.length pc)∧W.cell? ⟨w.heap.size,2,none⟩=some (.slice ra G.rules.length rc)∧W.cell? ⟨w.heap.size,3,none⟩=some (.slice qa G.prods.length qc)∧W.cell? ⟨w.heap.size,4,none⟩=some (.int .i64 G.start)∧W.cell? ⟨w2.heap.size,0,none⟩=some (.slice a0 (lkN G).length m0)∧W.cell? ⟨w2.heap.size,1,none⟩=some (.slice a1 (lkP G).length m1)∧W.cell? ⟨w2.heap.size,2,none⟩=some (.slice a2 (lkA G).length m2)∧W.cell? ⟨w2.heap.size,3,none⟩=some (.slice a3 (lkC G).length m3)∧W.cell? ⟨w2.heap.size,4,none⟩=some (.slice a4 (lkF G).length m4)∧W.cell? ⟨w2.heap.size,5,none⟩=some (.slice a5 (lkV G).length m5)∧W.cell? ⟨w4.heap.size,0,none⟩=some (.slice b0 (lkN G).length n0)∧W.cell? ⟨w4.heap.size,1,none⟩=some (.slice b1 (lkP G).length n1)∧W.cell? ⟨w4.heap.size,2,none⟩=some (.slice b2 (lkA G).length n2)∧W.cell? ⟨w4.heap.size,3,none⟩=some (.slice b3 (lkC G).length n3)∧W.cell? ⟨w4.heap.size,4,none⟩=some (.slice b4 (lkF G).length n4)∧W.cell? ⟨w4.heap.size,5,none⟩=some (.slice b5 (lkV G).length n5)):=hide (fun W hW=>by
   have hg:=gst_kept (below_le hW (by omega)) (Nat.le_refl _) hst7
   obtain⟨p0,p1,p2,p3,p4,p5,-⟩:=six_cells ((hW.block _ (by omega)).trans hxa)
   obtain⟨q0,q1,q2,q3,q4,q5,-⟩:=six_cells ((hW.block _ (by omega)).trans hxb)
   exact⟨hg.c0,hg.c1,hg.c2,hg.c3,hg.c4,p0,p1,p2,p3,p4,p5,q0,q1,q2,q3,q4,q5⟩)
 have H10:Hid (∀ W:World,Below w7.heap.size w7 W→Calls Tryz.prog 13 #[.agg #[.slice ka G.kinds.length kc,.slice pa G.precs.length pc,.slice ra G.rules.length rc,.slice qa G.prods.length qc,.int .i64 G.start]] W fun e w'=>e=.returned (.int .i64 (checkV G))∧Below W.heap.size W w'):=hide (fun W hW=>uh HC G ka pa ra qa kc pc rc qc W (gin_up (uh Hin) (hbw7.trans (below_le hW (by omega)))) (uh Hsm))
 have H11:Hid (∀ W:World,Below w7.heap.size w7 W→Calls Tryz.prog 14 #[.agg #[.slice ka G.kinds.length kc,.slice pa G.precs.length pc,.slice ra G.rules.length rc,.slice qa G.prods.length qc,.int .i64 G.start]] W fun e w'=>e=.returned (.int .i64 (checkV G))∧Below W.heap.size W w'):=hide (fun W hW=>check11 G ka pa ra qa kc pc rc qc W (gin_up (uh Hin) (hbw7.trans (below_le hW (by omega)))) (uh Hsm))
 have H12:Hid (∀ W:World,Below w7.heap.size w7 W→Calls Tryz.prog 15 #[.agg #[.slice a0 (lkN G).length m0,.slice a1 (lkP G).length m1,.slice a2 (lkA G).length m2,.slice a3 (lkC G).length m3,.slice a4 (lkF G).length m4,.slice a5 (lkV G).length m5],.agg #[.slice b0 (lkN G).length n0,.slice b1 (lkP G).length n1,.slice b2 (lkA G).length n2,.slice b3 (lkC G).length n3,.slice b4 (lkF G).length n4,.slice b5 (lkV G).length n5]] W fun e w'=>e=.returned (.bool true)∧Below W.heap.size W w'):=hide (fun W hW=>sameReport_rep _ _ _ _ _ _ _ _ _ _ _ _ W (repAt_up hra hW) (repAt_up hrb hW))
 have H13:Hid (∀ W:World,Below w7.heap.size w7 W→Calls Tryz.prog 16 #[.slice ca (fsL G row).length cc,.slice da (fsL G row).length dc] W fun e w'=>e=.returned (.bool true)∧Below W.heap.size W w'):=hide (fun W hW=>by
   have h:=rSameInts_any ca da cc dc (fsL G row) (fsL G row) (by have:=fsL_len (G:=G) (row:=row);omega) W (nrow_up hrc hW) (nrow_up hr7 hW)
   rw[decide_eq_true rfl] at h
   refine h.mono ?_
   rintro e w' ⟨he,q,rfl⟩
   exact⟨he,below_drewN (Below.refl _ _) q⟩)
 have Hbw7:=hide hbw7
 have hS:Below w7.heap.size w7 w7.drew:=(Below.refl _ _).drew
 clear hr7 hb7 hst7 hb57 hbw7 hra hrb hxa hxb hrc H9 HL HF HC Hr5 Hx5 Hb5 Hst5 Hr6 Hb6 Hst6 Hbw6 Hst Hb1 Hrow Hin Hsm
 generalize checkV G=cv at *
 generalize fsL G row=fl at *
 generalize fsE G row=fe at *
 generalize fsV G row=fv at *
 go_wp2
 go_region_held3 (fun W:World=>W.cell? ⟨w.heap.size,0,none⟩=some (.slice ka G.kinds.length kc)∧W.cell? ⟨w.heap.size,1,none⟩=some (.slice pa G.precs.length pc)∧W.cell? ⟨w.heap.size,2,none⟩=some (.slice ra G.rules.length rc)∧W.cell? ⟨w.heap.size,3,none⟩=some (.slice qa G.prods.length qc)∧W.cell? ⟨w.heap.size,4,none⟩=some (.int .i64 G.start)∧W.cell? ⟨w2.heap.size,0,none⟩=some (.slice a0 (lkN G).length m0)∧W.cell? ⟨w2.heap.size,1,none⟩=some (.slice a1 (lkP G).length m1)∧W.cell? ⟨w2.heap.size,2,none⟩=some (.slice a2 (lkA G).length m2)∧W.cell? ⟨w2.heap.size,3,none⟩=some (.slice a3 (lkC G).length m3)∧W.cell? ⟨w2.heap.size,4,none⟩=some (.slice a4 (lkF G).length m4)∧W.cell? ⟨w2.heap.size,5,none⟩=some (.slice a5 (lkV G).length m5)∧W.cell? ⟨w4.heap.size,0,none⟩=some (.slice b0 (lkN G).length n0)∧W.cell? ⟨w4.heap.size,1,none⟩=some (.slice b1 (lkP G).length n1)∧W.cell? ⟨w4.heap.size,2,none⟩=some (.slice b2 (lkA G).length n2)∧W.cell? ⟨w4.heap.size,3,none⟩=some (.slice b3 (lkC G).length n3)∧W.cell? ⟨w4.heap.size,4,none⟩=some (.slice b4 (lkF G).length n4)∧W.cell? ⟨w4.heap.size,5,none⟩=some (.slice b5 (lkV G).length n5))
   (first | exact uh HS _ hS | fail)
   (first
     | (go_at_call 13;refine(uh H10 _ hS).mono ?_;rintro e W3 ⟨rfl,hb3⟩;have hS:=hS.trans (below_le hb3 hS.size);clear hb3)
     | (go_at_call 14;refine(uh H11 _ hS).mono ?_;rintro e W3 ⟨rfl,hb3⟩;have hS:=hS.trans (below_le hb3 hS.size);clear hb3)
     | (go_at_call 15;refine(uh H12 _ hS).mono ?_;rintro e W3 ⟨rfl,hb3⟩;have hS:=hS.trans (below_le hb3 hS.size);clear hb3)
     | (go_at_call 16;refine(uh H13 _ hS).mono ?_;rintro e W3 ⟨rfl,hb3⟩;have hS:=hS.trans (below_le hb3 hS.size);clear hb3)
     | (go_at_call 17;refine(uh HAw _ ((uh Hbw7).trans (below_le hS (by omega)))).mono ?_;rintro e W3 ⟨rfl,hb3⟩;have hS:=hS.trans (below_le hb3 hS.size);clear hb3)
     | fail)
 all_goals
   go_wp2
   go_ret
   exact⟨rfl,(uh Hbw7).trans (below_le hS (by omega))⟩
end Go.Proofs.YtagohbpbgjelaaaGreatDoor

/- The code's nullable rules. -/
import Derived.Test.YtagohbpbgjelaaaGreatDoorGN
import Derived.Test.YtagohbpbgjelaaaGreatDoorRG
import Derived.Test.YtagohbpbgjelaaaGreatDoorM6
import Derived.Test.YtagohbpbgjelaaaGreatDoorSP
import Derived.Test.YtagohbpbgjelaaaGreatDoorGJ
import Derived.Test.YtagohbpbgjelaaaGreatDoorWkT3
import Derived.Test.YtagohbpbgjelaaaGreatDoorTW
import Derived.Test.YtagohbpbgjelaaaGreatDoorGV
namespace Go.Proofs.YtagohbpbgjelaaaGreatDoor
open Go.RowKit

def lensTo (G:Gm) (k:Nat):List Int:=(List.range k).map fun q => ((G.prods.getD q pd0).right.length:Int)
theorem lensTo_succ (G:Gm) (k:Nat):lensTo G (k + 1) = lensTo G k ++ [((G.prods.getD k pd0).right.length:Int)]:=by unfold lensTo; rw [List.range_succ,List.map_append]; rfl
theorem lensTo_len (G:Gm) (k:Nat):(lensTo G k).length = k:=by simp [lensTo]
set_option maxHeartbeats 1000000 in
set_option maxRecDepth 100000 in
/-- The rules that make the empty row. -/
theorem nullableRules_any (G : Gm) (hG : GOk G) (ka pa ra qa : Option Addr) (kc pc rc qc gb ob ub : Nat) (M : Nat) (w : World) (hM : M ≤ w.heap.size) (hg : GrAt M w G ka kc pa pc ra rc qa qc gb ob ub) :
   Calls Tryz.prog 76 #[.pointer (some ⟨gb,0,none⟩)] w fun e w' => ∃ b:Nat,e = .returned (.slice (some ⟨b,0,none⟩) G.rules.length G.rules.length) ∧ w'.rowIs b 4 G.rules.length (fun r => .bool (nullF G r)) ∧ w.heap.size ≤ b ∧ Below w.heap.size w w':=by
 obtain ⟨i3,hi3,hz30,hz31,hz32⟩:=info_parts info3
 have hr2:=hG.r2
 unfold Gm.nr at hr2
 have hps:=hG.ps
 have c3:w.cell? ⟨gb,3,none⟩ = some (.slice qa G.prods.length qc):=by unfold World.cell?; rw [hg.box]; rfl
 have hgl:gb < w.heap.size:=by have:=hg.lt; omega
 have Hg:=hide hg
 clear hg
 go_enter Tryz.func76,Tryz.ntmps76
 go_wp2
 go_loopw [3,12] (fun u x W => ∃ k:Nat,x = .int .i64 k ∧ k ≤ G.prods.length ∧ W.ownsRow w.heap.size 3 1 u (lensTo G k).length (vints (lensTo G k)) ∧ Below w.heap.size w W) (fun _ x _ => G.prods.length - (intOf x).toNat)
 case atStart => exact ⟨0,rfl,Nat.zero_le _,World.ownsRow_nil _ _ _ _,Below.refl _ _⟩
 case round =>
   clear c3
   obtain ⟨k,rfl,hk,hown,hb⟩:=hrel
   obtain ⟨ua,uc,rfl⟩:=own_form hown
   have hsz:=hb.size
   have hll:=lensTo_len G k
   have hgr:=gr_kept (unhide Hg) (below_le hb hM)
   have Hown:=hide hown; have Hb:=hide hb
   clear hown hb
   by_cases hlt:k < G.prods.length
   · have hlt':(k:Int) < G.prods.length:=by omega
     obtain ⟨b,off,rfl,hbB,rr,rrc,x3,x4,x5,x6,n6,c6,-,-,q0,q1,q2,q3,q4,q5,q6⟩:=qrow_at hgr.gin.prods hlt
     have Hs:=hide (lensTo_succ G k)
     have Hll:=hide hll
     generalize G.prods.getD k pd0 = p at *
     obtain ⟨pl,prt,plv,pac⟩:=p
     simp only at q0 q1 q2 Hs
     have hacc:(lensTo G k).length ≤ 4096:=by omega
     generalize lensTo G k = acc at *
     clear hgr hll
     go_wp2_with (at_builtin; refine wpList_append_own _ rfl _ _ 27 rfl w.heap.size 3 i3 (.int .i64 0) 1 8 Tryz.underlying27 hi3 hz30 hz31 hz32 rfl (by decide) _ _ _ rfl (((unhide Hown).alloc _).alloc _) ⟨wr.heap.size + 1,0,none⟩ 1 1 [.int .i64 (prt.length:Int)] rfl rfl ?zc1 ?zc2 ?zc3 ?zc4 ?zc5 ?_)
     case zc1 => intro j u hu; have h:=new1 (wr.alloc (.cells #[.int .i64 pl,.slice rr prt.length rrc,.int .i64 plv,.int .i64 x3,.int .i64 x4,.string x5,.slice x6 n6 c6] 89)) (.int .i64 (prt.length:Int)) 3 j u hu; simpa using h
     case zc2 => intro u hu; simp at hu; rcases hu with rfl; rfl
     case zc3 => unfold maxLen; omega
     case zc4 => omega
     case zc5 => simp; omega
     intro v' W3 hown' hgrow _
     have Hb4:=hide ((((unhide Hb).alloc hsz _).alloc (by simp; omega) _).grown hgrow (by simp; omega) (fun j hj => ((unhide Hown).lt j hj).1))
     have Ho4:=hide (show W3.ownsRow w.heap.size 3 1 v' (lensTo G (k + 1)).length (vints (lensTo G (k + 1))) by rw [unhide Hs,← vints_snoc,List.length_append]; exact hown')
     clear hown' hgrow
     go_wp2
     go_roundw
     case rel => exact ⟨k + 1,by go_num,by omega,unhide Ho4,unhide Hb4⟩
     case measure => simp [intOf]; omega
   · obtain rfl:k = G.prods.length:=by omega
     have hmv:∀ q,q < G.prods.length → atZ (lensTo G G.prods.length) q = ((G.prods.getD q pd0).right.length:Int):=fun q hq => by
       unfold atZ lensTo
       rw [List.getD_eq_getElem?_getD,List.getElem?_map,List.getElem?_range hq]; rfl
     have HRo:=hide (rounds_any G hG ka pa ra qa kc pc rc qc gb ob ub M (.slice ua (lensTo G G.prods.length).length uc) (lensTo G G.prods.length) (lensTo_len G _) (fun q hq => by
       rw [hmv q hq]
       have h4:=rulesL_len (nk:=G.nk) (G.prods.getD q pd0).right
       have h5:(rlN G q).length = (rulesL G.nk (G.prods.getD q pd0).right).length:=by unfold rlN; rw [List.length_map]
       omega) (fun q => by
       by_cases hq:q < G.prods.length
       · rw [hmv q hq]; have:=hG.pr _ (mem_getP hq); omega
       · have:atZ (lensTo G G.prods.length) q = 0:=by unfold atZ; rw [List.getD_eq_getElem?_getD,List.getElem?_eq_none (by rw [lensTo_len]; omega)]; rfl
         omega) wr (by omega) hgr (own_base (unhide Hown) hM))
     have Hmv:=hide hmv
     have hmb:∀ j,(Value.slice ua (lensTo G G.prods.length).length uc).ownBlock = some j → w.heap.size ≤ j:=fun j hj => ((unhide Hown).lt j hj).1
     rw [hll] at HRo hmb ⊢
     clear hmv hgr
     go_wp2_with fail
     refine (unhide HRo).mono ?_
     rintro e w3 ⟨b3,n,c,rfl,hrow3,hc,hs,hbl,hfr3⟩
     have hb3:Below w.heap.size w w3:=(unhide Hb).trans (fr_below hfr3 hsz hmb)
     have hs3:=hb3.size
     have hll3:((List.range G.rules.length).map c).length = G.rules.length:=by simp
     have HF:=hide (areFound_any (some ⟨b3,0,none⟩) G.rules.length ((List.range G.rules.length).map c) (by rw [hll3]; omega) w3 (own_nrowB hrow3))
     rw [hll3] at HF
     have Hpr:=hide (null_rounds (unhide Hmv) hc hs)
     have hcl:∀ r,-1 ≤ c r:=fun r => by rw [hc]; exact stN_cl n r
     have Hcl:=hide hcl
     have Hb3:=hide hb3
     clear hrow3 hc hs hfr3 hb3 hcl HRo
     go_wp2_with fail
     refine (unhide HF).mono ?_
     rintro e w4 ⟨b4,rfl,hrow4,hbl4,hb4⟩
     have Hb4:=hide ((unhide Hb3).trans (below_le hb4 hs3))
     have Hrow4:=hide hrow4
     clear hrow4 hb4
     go_wp2
     go_ret
     refine ⟨b4,rfl,(unhide Hrow4).congr (fun r hr => ?_),by omega,unhide Hb4⟩
     rw [← unhide Hpr]
     unfold fdM
     have e1:((List.range G.rules.length).map c).getD r 0 = c r:=by rw [List.getD_eq_getElem?_getD,List.getElem?_map,List.getElem?_range hr]; rfl
     rw [e1]
     congr 1
     rw [decide_eq_decide]
     have:=unhide Hcl r
     omega
end Go.Proofs.YtagohbpbgjelaaaGreatDoor

/- Shortest rows' lengths, plainly: what the code's way of finding them ends with. -/
namespace Go.Proofs.YtagohbpbgjelaaaGreatDoor
open Go.RowKit

/-- How many kinds a production has. -/
def kcN (G:Gm) (q:Nat):Int:=((G.prods.getD q pd0).right.length:Int) - (rlN G q).length
def lfQ (G:Gm) (q:Nat):Nat:=(G.prods.getD q pd0).left.toNat
theorem rulesL_cons (nk:Nat) (x:Int) (l:List Int):rulesL nk (x :: l) = (if (nk:Int) ≤ x then [x - nk] else []) ++ rulesL nk l:=rfl
theorem lenR_sumQ {nk:Nat} {f:Nat → Int}:∀ (row:List Int) (acc:Int),0 ≤ acc → acc ≤ 65537 → (∀ x,x ∈ row → (nk:Int) ≤ x → 0 ≤ f (x - nk).toNat) →
   lenR nk f row acc = min (acc + ((row.length:Int) - (rulesL nk row).length) + sumL f ((rulesL nk row).map Int.toNat)) 65537
 | [],acc,h0,h1,_ => by unfold lenR; simp [rulesL,sumL]; omega
 | x :: xs, acc, h0, h1, h => by
   have hr:=fun y hy => h y (List.mem_cons_of_mem _ hy)
   have hs:=(sumL_ge f ((rulesL nk xs).map Int.toNat)).1
   have hl:=rulesL_len (nk:=nk) xs
   unfold lenR
   rw [rulesL_cons]
   by_cases hk:(nk:Int) ≤ x
   · have hf:=h x (by simp) hk
     rw [if_pos hk,if_pos hk,if_neg (by omega),lenR_sumQ xs _ (by omega) (by omega) hr]
     simp only [List.singleton_append,List.map_cons,List.length_cons,sumL]
     rw [if_pos hf]
     push_cast
     omega
   · rw [if_neg hk,if_neg hk,lenR_sumQ xs _ (by omega) (by omega) hr]
     simp only [List.nil_append,List.length_cons]
     push_cast
     omega
theorem lenR_q {G:Gm} {f:Nat → Int} {q:Nat} (h:∀ x,x ∈ rlN G q → 0 ≤ f x):lenR G.nk f (G.prods.getD q pd0).right 0 = min (kcN G q + sumL f (rlN G q)) 65537:=by
 rw [lenR_sumQ _ 0 (Int.le_refl _) (by decide) (fun x hx hk => h _ (rlN_mem.2 ⟨x,hx,hk,rfl⟩))]
 unfold kcN rlN
 rw [List.length_map]
 congr 1
 omega
theorem lng_good {G:Gm} (f:Nat → Int) (q:Nat) (hq:q < G.prods.length) (h:∀ x,x ∈ rlN G q → 0 ≤ f x ∧ f x ≤ 65537 ∧ Lng G x (f x)):Lng G (lfQ G q) (min (kcN G q + sumL f (rlN G q)) 65537):=by
 have e:=lenR_q (G:=G) (f:=f) (q:=q) (fun x hx => (h x hx).1)
 rw [← e]
 have hk:0 ≤ kcN G q:=by unfold kcN rlN; rw [List.length_map]; have:=rulesL_len (nk:=G.nk) (G.prods.getD q pd0).right; omega
 have hs:=(sumL_ge f (rlN G q)).1
 exact .mk _ (mem_getP hq) f (fun x hx hkx => (h _ (rlN_mem.2 ⟨x,hx,hkx,rfl⟩)).2.2) (by rw [e]; omega)
theorem kcN_nn (G:Gm) (q:Nat):0 ≤ kcN G q:=by unfold kcN rlN; rw [List.length_map]; have:=rulesL_len (nk:=G.nk) (G.prods.getD q pd0).right; omega
abbrev LsI (G:Gm) (L mi su:Nat → Int) (H:Nat → Option Int) (rem:List Nat):Prop:=KInv (lfQ G) (rlN G) (kcN G) G.prods.length (Lng G) 65537 L mi su H rem
theorem ls_end {G:Gm} {L mi su:Nat → Int} {H:Nat → Option Int} (h:LsI G L mi su H []) (hH:∀ r,H r = none):LeastIs G L:=by
 obtain ⟨h1,h2⟩:=kinv_end h hH
 refine lng_done h1 (fun i hi => ?_)
 rintro ⟨h3,h4⟩
 have hall:∀ x,x ∈ rlN G i → 0 ≤ L x:=fun x hx => by
   obtain ⟨y,hy,hk,rfl⟩:=rlN_mem.1 hx
   exact lenR_all _ 0 (Int.le_refl _) h3 y hy hk
 have h5:=h2 i hi hall
 rw [lenR_q hall] at h4
 unfold lfQ at h5
 omega
theorem ls_pop {G:Gm} {L mi su:Nat → Int} {H:Nat → Option Int} {r:Nat} {v:Int} (h:LsI G L mi su H []) (hr:H r = some v) (hmin:∀ s u,H s = some u → v ≤ u) :
   L r < 0 ∧ 0 ≤ v ∧ v ≤ 65537 ∧ LsI G (upZ L r v) (dcM (useN G r) mi) (fun q => su q + v * ((useN G r).count q:Nat)) (upH H r none) (dcR (useN G r) mi) :=
 kinv_pop (uses:=useN G) (fun q r hq => useN_count hq) (fun q r hq => useN_lt hq) (fun q _ => kcN_nn G q) (by decide) (fun f q hq hx => lng_good f q hq hx) h hr hmin
end Go.Proofs.YtagohbpbgjelaaaGreatDoor

/- The code's leasts: how long shortest rows are. -/
namespace Go.Proofs.YtagohbpbgjelaaaGreatDoor
open Go.RowKit

theorem newList_any (w:World):Calls Tryz.prog 106 #[] w fun e w' => e = .returned (.pointer (some ⟨w.heap.size,0,none⟩)) ∧ w' = w.alloc (.cells #[.slice none 0 0,.map none] 191):=by
 go_enter Tryz.func106,Tryz.ntmps106
 go_wp2
 go_ret
 exact ⟨rfl,rfl⟩
/-- What the search for lengths has made, as it lies. -/
structure LsAt (B:Nat) (w V:World) (n np bb mb sb tb:Nat) (L su:Nat → Int) (ml:List Int) (O:Nat → Prop) (H:Nat → Option Int):Prop where
 ls:V.rowIs bb 3 n (fun r => .int .i64 (L r))
 ms:V.ownsRow B 3 1 (.slice (some ⟨mb,0,none⟩) np np) ml.length (vints ml)
 mln:ml.length = np
 sm:V.rowIs sb 3 np (fun q => .int .i64 (su q))
 td:LstH V tb O H
 o1:¬ O bb
 o2:¬ O mb
 o3:¬ O sb
 n1:bb ≠ mb
 n2:bb ≠ sb
 n3:mb ≠ sb
 ob:∀ k,O k → B ≤ k
 b1:B ≤ bb
 b2:B ≤ mb
 b3:B ≤ sb
 bl:Below B w V
section
variable {B:Nat} {w V V':World} {n np bb mb sb tb:Nat} {L su:Nat → Int} {ml:List Int} {O:Nat → Prop} {H:Nat → Option Int}
theorem lsAt_below (h:LsAt B w V n np bb mb sb tb L su ml O H) (hB:B ≤ V.heap.size) (hb:Below V.heap.size V V'):LsAt B w V' n np bb mb sb tb L su ml O H :=
 ⟨h.ls.of_block (hb.block _ h.ls.lt),own_blkB h.ms hb,h.mln,h.sm.of_block (hb.block _ h.sm.lt),lstH_off h.td hb,h.o1,h.o2,h.o3,h.n1,h.n2,h.n3,h.ob,h.b1,h.b2,h.b3,h.bl.trans (below_le hb hB)⟩
theorem lsAt_push (h:LsAt B w V n np bb mb sb tb L su ml O H) (hB:B ≤ V.heap.size) {O':Nat → Prop} {H':Nat → Option Int} (hf:Fr O V V') (ht:LstH V' tb O' H') (hO:∀ k,O' k → O k ∨ V.heap.size ≤ k):LsAt B w V' n np bb mb sb tb L su ml O' H':=by
 have h1:=h.ls.lt
 have h2:=h.sm.lt
 have h3:=(h.ms.lt mb rfl).2
 refine ⟨h.ls.of_block (hf.2.1 _ h1 h.o1),own_blk h.ms (fun k hk => ?_),h.mln,h.sm.of_block (hf.2.1 _ h2 h.o3),ht,fun ho => (hO _ ho).elim h.o1 (by omega),fun ho => (hO _ ho).elim h.o2 (by omega),fun ho => (hO _ ho).elim h.o3 (by omega),h.n1,h.n2,h.n3,fun k hk => (hO k hk).elim (h.ob k) (by omega),h.b1,h.b2,h.b3,h.bl.trans (fr_below hf hB h.ob)⟩
 have e:mb = k:=by simpa [Value.ownBlock] using hk
 subst e
 exact hf.2.1 _ h3 h.o2
theorem lstH_set {b o:Nat} {v:Value} (h:LstH V tb O H) (hn:¬ O b):LstH (V.setCell ⟨b,o,none⟩ v) tb O H:=by
 obtain ⟨ts,h1,h2,h3⟩:=h
 refine ⟨ts,Wk.lst_off h1 (O':=(· = b)) (Wk.off_set (O:=(· = b)) (p:=⟨b,o,none⟩) (Wk.off_refl _ _) (.inl rfl) _) (fun k hk e => hn (by have e:k = b:=e; rw [← e]; exact hk)),h2,h3⟩
theorem lsAt_ls (h:LsAt B w V n np bb mb sb tb L su ml O H) (r:Nat) (v:Int):LsAt B w (V.setCell ⟨bb,r,none⟩ (.int .i64 v)) n np bb mb sb tb (upZ L r v) su ml O H :=
 ⟨(h.ls.set r _).congr (fun q _ => by unfold upZ; split <;> rfl),own_set h.ms (by simp [Value.ownBlock]; exact fun e => h.n1 e.symm),h.mln,h.sm.of_block (heap_other V (fun e => h.n2 e.symm)),lstH_set h.td h.o1,h.o1,h.o2,h.o3,h.n1,h.n2,h.n3,h.ob,h.b1,h.b2,h.b3,h.bl.setCell h.b1 _⟩
theorem lsAt_sm (h:LsAt B w V n np bb mb sb tb L su ml O H) (q:Nat) (v:Int):LsAt B w (V.setCell ⟨sb,q,none⟩ (.int .i64 v)) n np bb mb sb tb L (upZ su q v) ml O H :=
 ⟨h.ls.of_block (heap_other V h.n2),own_set h.ms (by simp [Value.ownBlock]; exact h.n3),h.mln,(h.sm.set q _).congr (fun q _ => by unfold upZ; split <;> rfl),lstH_set h.td h.o3,h.o1,h.o2,h.o3,h.n1,h.n2,h.n3,h.ob,h.b1,h.b2,h.b3,h.bl.setCell h.b3 _⟩
end
/-- Two rows were made, one of them counts. -/
structure RcM (w W:World) (np mb sb:Nat) (ml:List Int):Prop where
 ms:W.ownsRow w.heap.size 3 1 (.slice (some ⟨mb,0,none⟩) np np) ml.length (vints ml)
 sm:W.rowIs sb 3 np (fun _ => .int .i64 0)
 ne:mb ≠ sb
 lo:w.heap.size ≤ sb
 bl:Below w.heap.size w W
theorem rcm_a {w W3:World} {np mb:Nat} {ml:List Int} (ho:W3.ownsRow w.heap.size 3 1 (.slice (some ⟨mb,0,none⟩) np np) ml.length (vints ml)) (hb:Below w.heap.size w W3):RcM w (W3.alloc (.cells (madeCells #[.int .i64 0] np) 3)) np mb W3.heap.size ml:=by
 have hs:=hb.size
 have h1:=(ho.lt mb rfl).2
 exact ⟨ho.alloc _,World.rowIs_made _ _ _ _,by omega,by omega,hb.alloc hs _⟩
theorem rcm_b {w W3:World} {np mb:Nat} {ml:List Int} (ho:W3.ownsRow (w.alloc (.cells (madeCells #[.int .i64 0] np) 3)).heap.size 3 1 (.slice (some ⟨mb,0,none⟩) np np) ml.length (vints ml)) (hb:Below (w.alloc (.cells (madeCells #[.int .i64 0] np) 3)).heap.size (w.alloc (.cells (madeCells #[.int .i64 0] np) 3)) W3):RcM w W3 np mb w.heap.size ml:=by
 have hs:(w.alloc (.cells (madeCells #[.int .i64 0] np) 3)).heap.size = w.heap.size + 1:=by simp
 have h1:=(ho.lt mb rfl).1
 have hr:=World.rowIs_made w (.int .i64 0) np 3
 exact ⟨own_base ho (by omega),hr.of_block (hb.block _ (by omega)),by omega,Nat.le_refl _,((Below.refl _ _).alloc (Nat.le_refl _) _).trans (below_le hb (by omega))⟩
/-- The productions without rules that are still to be laid in. -/
def remK (G:Gm) (k:Nat):List Nat:=((List.range G.prods.length).drop k).filter fun q => decide (rlN G q = [])
theorem remK_step (G:Gm) (k:Nat) (hk:k < G.prods.length):remK G k = if rlN G k = [] then k :: remK G (k + 1) else remK G (k + 1):=by
 unfold remK
 rw [List.drop_eq_getElem_cons (by simpa using hk),List.getElem_range,List.filter_cons]
 simp
theorem remK_end (G:Gm):remK G G.prods.length = []:=by
 unfold remK
 rw [List.drop_eq_nil_of_le (by simp)]
 rfl
theorem ls_first {G:Gm} {k:Nat} {H:Nat → Option Int} (hk:k < G.prods.length) (h:LsI G (fun _ => -1) (fun q => (rlN G q).length) (kcN G) H (remK G k)) (hkc:kcN G k ≤ 65537):LsI G (fun _ => -1) (fun q => (rlN G q).length) (kcN G) (if (rlN G k).length = 0 then pushH H (lfQ G k) (kcN G k) else H) (remK G (k + 1)):=by
 rw [remK_step G k hk] at h
 by_cases e:rlN G k = []
 · rw [if_pos e] at h
   rw [if_pos (by rw [e]; rfl)]
   have:=kinv_push h (by decide)
   rw [show min (kcN G k) 65537 = kcN G k by omega] at this
   exact this
 · rw [if_neg e] at h
   rw [if_neg (fun h0 => e (List.eq_nil_of_length_eq_zero h0))]
   exact h
theorem sumL_le {L:Nat → Int}:∀ (l:List Nat),(∀ x,L x ≤ 65537) → sumL L l ≤ 65537 * l.length
 | [],_ => by simp [sumL]
 | x :: l, h => by
   have:=sumL_le l h
   have:=h x
   unfold sumL
   rw [List.length_cons]
   push_cast
   split <;> omega
theorem rlN_len (G:Gm) (q:Nat):(rlN G q).length ≤ (G.prods.getD q pd0).right.length:=by unfold rlN; rw [List.length_map]; exact rulesL_len _
theorem ls_su {G:Gm} (hG:GOk G) {L mi su:Nat → Int} {H:Nat → Option Int} {rem:List Nat} (h:LsI G L mi su H rem) {q:Nat} (hq:q < G.prods.length):0 ≤ su q ∧ su q ≤ 10000000:=by
 have h1:=h.suE q hq
 have h2:=hG.pr _ (mem_getP hq)
 have h3:=rlN_len G q
 have h4:=sumL_le (L:=L) (rlN G q) (fun x => by rcases h.lg x with h | h <;> omega)
 have h5:=(sumL_ge L (rlN G q)).1
 have h6:=kcN_nn G q
 have h7:kcN G q ≤ 64:=by unfold kcN; omega
 have h8:(65537:Int) * (rlN G q).length ≤ 65537 * 64:=by omega
 omega
theorem own_raise {w:World} {B B' e s n:Nat} {v:Value} {xs:List Value} (h:w.ownsRow B e s v n xs) (hB:∀ k,v.ownBlock = some k → B' ≤ k):w.ownsRow B' e s v n xs:=by
 refine ⟨h.1,?_⟩
 rcases h.2 with h0 | ⟨g,cap,cur,hv,h1,rest⟩
 · exact .inl h0
 · exact .inr ⟨g,cap,cur,hv,hB g (by rw [hv]; rfl),rest⟩
/-- The rows that readyBy told of lie apart from the list. -/
structure RyAt (S:Nat) (V:World) (u:Value) (l:List Nat) (O:Nat → Prop):Prop where
 own:V.ownsRow S 3 1 u (castL l).length (vints (castL l))
 no:∀ k,u.ownBlock = some k → ¬ O k
theorem lsAt_rdy {B M:Nat} {w V W:World} {n np bb mb sb tb:Nat} {L su:Nat → Int} {ml:List Int} {O:Nat → Prop} {H:Nat → Option Int} {P:List Nat} {u:Value} (h:LsAt B w V n np bb mb sb tb L su ml O H) (hB:B ≤ V.heap.size) (hr:RdI M V (.slice (some ⟨mb,0,none⟩) np np) ml P u W) :
   ∃ ml',atZ ml' = dcM P (atZ ml) ∧ LsAt B w W n np bb mb sb tb L su ml' O H ∧ RyAt V.heap.size W u (dcR P (atZ ml)) O:=by
 obtain ⟨hrd,⟨ml',hl',ha',hms'⟩,hf⟩:=hr
 have hne:∀ k,(Value.slice (some ⟨mb,0,none⟩) np np).ownBlock = some k → k = mb:=fun k hk => by
   have e:mb = k:=by simpa [Value.ownBlock] using hk
   exact e.symm
 have hb1:=h.ls.lt
 have hb2:=h.sm.lt
 refine ⟨ml',ha',⟨h.ls.of_block (hf.2.1 _ hb1 (fun e => h.n1 (hne _ e))),own_raise hms' (fun k hk => by rw [hne k hk]; exact h.b2),hl'.trans h.mln,h.sm.of_block (hf.2.1 _ hb2 (fun e => h.n3 (hne _ e).symm)),?_,h.o1,h.o2,h.o3,h.n1,h.n2,h.n3,h.ob,h.b1,h.b2,h.b3,h.bl.trans (fr_below hf hB (fun k hk => by rw [hne k hk]; exact h.b2))⟩,⟨hrd,fun k hk ho => ?_⟩⟩
 · obtain ⟨ts,h1,h2,h3⟩:=h.td
   exact ⟨ts,Wk.lst_off h1 (off_of_fr hf) (fun k hk e => h.o2 (by rw [← hne k e]; exact hk)),h2,h3⟩
 · obtain ⟨ts,h1,h2,h3⟩:=h.td
   have e1:=h1.lt k ho
   have e2:=(hrd.lt k hk).1
   omega
theorem ryAt_push {S:Nat} {V V':World} {u:Value} {l:List Nat} {O O':Nat → Prop} (h:RyAt S V u l O) (hf:Fr O V V') (hO:∀ k,O' k → O k ∨ V.heap.size ≤ k):RyAt S V' u l O' :=
 ⟨own_blk h.own (fun k hk => hf.2.1 _ (h.own.lt k hk).2 (h.no k hk)),fun k hk ho => (hO k ho).elim (h.no k hk) (by have:=(h.own.lt k hk).2; omega)⟩
theorem ryAt_below {S:Nat} {V V':World} {u:Value} {l:List Nat} {O:Nat → Prop} (h:RyAt S V u l O) (hb:Below V.heap.size V V'):RyAt S V' u l O :=
 ⟨own_blk h.own (fun k hk => hb.block _ (h.own.lt k hk).2),h.no⟩
theorem ls_mi {G:Gm} (hG:GOk G) {L su:Nat → Int} {ml:List Int} {H:Nat → Option Int} {rem:List Nat} (h:LsI G L (atZ ml) su H rem) (hl:ml.length = G.prods.length):∀ q,-1048576 ≤ atZ ml q ∧ atZ ml q ≤ 1048576:=fun q => by
 by_cases hq:q < G.prods.length
 · rw [h.miE q hq]
   have h2:(rlN G q).countP (fd L) ≤ (rlN G q).length:=List.countP_le_length
   have h3:=rlN_len G q
   have h5:=hG.pr _ (mem_getP hq)
   omega
 · have:atZ ml q = 0:=by unfold atZ; rw [List.getD_eq_getElem?_getD,List.getElem?_eq_none (by omega)]; rfl
   omega
end Go.Proofs.YtagohbpbgjelaaaGreatDoor

/- The code's next: the rules to which a rule leads by one production. -/
namespace Go.Proofs.YtagohbpbgjelaaaGreatDoor
open Go.RowKit

/-- The rules of a rule's productions, of those that lead, up to one of them. -/
def nxtL (G:Gm) (ok:Nat → Bool) (l:List Nat):List Int:=l.flatMap fun q => if ok q then rulesL G.nk (G.prods.getD q pd0).right else []
def ownN (G:Gm) (r:Nat):List Nat:=(List.range G.prods.length).filter fun i => decide ((G.prods.getD i pd0).left.toNat = r)
theorem ownN_is (G:Gm) (r:Nat):ownTo G G.prods.length r = castL (ownN G r):=rfl
theorem nxtL_snoc (G:Gm) (ok:Nat → Bool) (l:List Nat) (k:Nat) (h:k < l.length):nxtL G ok (l.take (k + 1)) = nxtL G ok (l.take k) ++ (if ok (l.getD k 0) then rulesL G.nk (G.prods.getD (l.getD k 0) pd0).right else []):=by
 unfold nxtL
 have e:l.take (k + 1) = l.take k ++ [l.getD k 0]:=by rw [List.take_add_one,List.getD_eq_getElem?_getD,List.getElem?_eq_getElem h]; rfl
 rw [e,List.flatMap_append]
 simp
theorem nxtL_len (G:Gm) (hG:GOk G) (ok:Nat → Bool) (l:List Nat) (hl:∀ q,q ∈ l → q < G.prods.length):(nxtL G ok l).length ≤ 64 * l.length:=by
 induction l with
 | nil => simp [nxtL]
 | cons q l ih =>
   have h1:=ih (fun x hx => hl x (List.mem_cons_of_mem _ hx))
   have h2:=hG.pr _ (mem_getP (hl q List.mem_cons_self))
   have h3:=rulesL_len (nk:=G.nk) (G.prods.getD q pd0).right
   have e:nxtL G ok (q :: l) = (if ok q then rulesL G.nk (G.prods.getD q pd0).right else []) ++ nxtL G ok l:=by simp [nxtL]
   rw [e,List.length_append,List.length_cons]
   by_cases hq:ok q = true
   · rw [if_pos hq]; omega
   · rw [if_neg hq]; simp; omega
theorem ownN_mem {G:Gm} {r q:Nat} (h:q ∈ ownN G r):q < G.prods.length:=by unfold ownN at h; simp at h; exact h.1
theorem ownN_len (G:Gm) (r:Nat):(ownN G r).length ≤ G.prods.length:=by unfold ownN; have:=List.length_filter_le (fun i => decide ((G.prods.getD i pd0).left.toNat = r)) (List.range G.prods.length); simpa using this
set_option maxHeartbeats 1000000 in
set_option maxRecDepth 100000 in
theorem next_any (G : Gm) (hG : GOk G) (ka pa ra qa : Option Addr) (kc pc rc qc gb ob ub : Nat) (M : Nat) (F : Nat) (cap : Array Value) (ok : Nat → Bool) (hcf : ∀ args W, Sem.run Tryz.prog (callFunc F args) W = .ok (.enter F args) W) (r : Nat) (hr : r < G.rules.length) (w : World) (hM : M ≤ w.heap.size) (hg : GrAt M w G ka kc pa pc ra rc qa qc gb ob ub)
   (hF:∀ W q,q < G.prods.length → Below w.heap.size w W → Calls Tryz.prog F (#[.int .i64 (q:Nat)] ++ cap) W fun e W' => e = .returned (.bool (ok q)) ∧ Below W.heap.size W W') :
   Calls Tryz.prog 84 #[.pointer (some ⟨gb,0,none⟩),.int .i64 (r:Int),.func (.func F) #[] cap] w fun e w' => ∃ v,e = .returned v ∧ w'.ownsRow w.heap.size 3 1 v (nxtL G ok (ownN G r)).length (vints (nxtL G ok (ownN G r))) ∧ Below w.heap.size w w':=by
 obtain ⟨i3,hi3,hz30,hz31,hz32⟩:=info_parts info3
 have hps:=hG.ps
 have hr2:=hG.r2
 unfold Gm.nr at hr2
 have c5:w.cell? ⟨gb,5,none⟩ = some (.slice (some ⟨ob,0,none⟩) G.rules.length G.rules.length):=by unfold World.cell?; rw [hg.box]; rfl
 obtain ⟨Oo,hto,-⟩:=hg.own
 obtain ⟨xa,xc,tco,hxn⟩:=tab_at hto hr
 rw [ownN_is] at tco hxn
 rw [castL_len] at tco
 have hr':(r:Int) < G.rules.length:=by omega
 have Hg:=hide hg; have HF:=hide hF
 clear hg hF
 go_enter Tryz.func84,Tryz.ntmps84
 go_wp2
 go_loopw [7,18] (fun u x W => ∃ k:Nat,x = .int .i64 k ∧ k ≤ (ownN G r).length ∧ W.ownsRow w.heap.size 3 1 u (nxtL G ok ((ownN G r).take k)).length (vints (nxtL G ok ((ownN G r).take k))) ∧ Below w.heap.size w W) (fun _ x _ => (ownN G r).length - (intOf x).toNat)
 case atStart => exact ⟨0,rfl,Nat.zero_le _,World.ownsRow_nil _ _ _ _,Below.refl _ _⟩
 case round =>
   obtain ⟨k,rfl,hk,hown,hb⟩:=hrel
   obtain ⟨ua,uc,rfl⟩:=own_form hown
   have hsz:=hb.size
   have hgr:=gr_kept (unhide Hg) (below_le hb hM)
   have hlen:=nxtL_len G hG ok ((ownN G r).take k) (fun q hq => ownN_mem (List.mem_of_mem_take hq))
   have hon:=ownN_len G r
   rw [List.length_take] at hlen
   by_cases hlt:k < (ownN G r).length
   · have hlt':(k:Int) < (ownN G r).length:=by omega
     have hq:=ownN_mem (G:=G) (r:=r) (show (ownN G r).getD k 0 ∈ ownN G r by rw [List.getD_eq_getElem?_getD,List.getElem?_eq_getElem hlt]; exact List.getElem_mem hlt)
     have hxr:=nrow_up hxn hb
     obtain ⟨xb,xo,rfl,hxb,hxe⟩:=nrow_at hxr (k:=k) (by rw [castL_len]; exact hlt)
     rw [castL_get hlt] at hxe
     have Hs:=hide (nxtL_snoc G ok (ownN G r) k hlt)
     have HC:=hide ((unhide HF) wr ((ownN G r).getD k 0) hq hb)
     have hacc:(nxtL G ok ((ownN G r).take k)).length ≤ 262144:=by omega
     have Hown:=hide hown; have Hb:=hide hb; have Hgr:=hide hgr
     generalize (ownN G r).getD k 0 = q at *
     generalize nxtL G ok ((ownN G r).take k) = acc at *
     clear hxr hxn tco hto hown hb hgr hlen
     go_wp2_with fail
     refine (unhide HC).mono ?_
     rintro e w2 ⟨rfl,hb2⟩
     have hs2:=hb2.size
     have hown2:=own_below (unhide Hown) hb2
     have hbb:=(unhide Hb).trans (below_le hb2 hsz)
     by_cases hk2:ok q = true
     · rw [hk2]
       have hgr2:=gr_kept (unhide Hgr) (below_le hb2 (by omega))
       obtain ⟨pb,off,rfl,hbB,rr,rrc,x3,x4,x5,x6,n6,c6,hrr,-,q0,q1,q2,q3,q4,q5,q6⟩:=qrow_at hgr2.gin.prods hq
       have hgb:gb < w2.heap.size:=by have:=hgr2.lt; omega
       have c0:w2.cell? ⟨gb,0,none⟩ = some (.slice ka G.kinds.length kc):=by unfold World.cell?; rw [hgr2.box]; rfl
       have c3:w2.cell? ⟨gb,3,none⟩ = some (.slice (some ⟨pb,off,none⟩) G.prods.length qc):=by unfold World.cell?; rw [hgr2.box]; rfl
       have hq':(q:Int) < G.prods.length:=by omega
       have hpr:=hG.pr _ (mem_getP hq)
       have hpy:=hG.py _ (mem_getP hq)
       have hrl:=rulesL_len (nk:=G.nk) (G.prods.getD q pd0).right
       rw [hk2,if_pos rfl] at Hs
       generalize G.prods.getD q pd0 = p at *
       obtain ⟨pl,prt,plv,pac⟩:=p
       simp only at q0 q1 q2 Hs hpr hpy hrl hrr
       have Hown2:=hide hown2; have Hbb:=hide hbb
       have hb0:pb < w2.heap.size:=by omega
       have Hrl:=hide (rulesOf_any gb G.kinds.length ka kc hG.k3 rr rrc prt (by omega) (fun x hx => by have:=hpy x hx; have:=hG.k3; have:=hG.r2; unfold Gm.nk Gm.nr at *; omega) w2 c0 hgb (nrow_big (by omega) hrr))
       clear hgr2 hrr hown2 hbb hpy
       go_wp2_with fail
       refine (unhide Hrl).mono ?_
       rintro e w5 ⟨v5,rfl,how5,hb5⟩
       have hs5:=hb5.size
       have ho5:=own_below (unhide Hown2) hb5
       have hbb5:=(unhide Hbb).trans (below_le hb5 (by omega))
       obtain ⟨va,vc,rfl⟩:=own_form how5
       obtain ⟨_,_,he5,hn5⟩:=own_nrow how5
       cases he5
       have Ho5:=hide ho5; have Hbb5:=hide hbb5
       have hrl':(rulesL G.kinds.length prt).length ≤ 64:=by unfold Gm.nk at hrl; omega
       rcases hn5 with h | ⟨b5,o5,rfl,h2,h3⟩
       · have Ho3:=hide (show w5.ownsRow w.heap.size 3 1 (.slice ua acc.length uc) (nxtL G ok ((ownN G r).take (k + 1))).length (vints (nxtL G ok ((ownN G r).take (k + 1)))) by rw [unhide Hs,show rulesL G.nk prt = [] from h]; simpa using ho5)
         rw [h] at how5 ⊢
         clear ho5 hbb5
         rcases how5.2 with ⟨h1,-⟩ | ⟨g5,cap5,x5',h1,h2⟩
         · cases h1
           go_wp2_with (at_builtin; refine wpList_append_own_none rfl _ _ 27 rfl w.heap.size 3 i3 1 Tryz.underlying27 hi3 _ _ _ rfl (unhide Ho3) rfl ?_)
           go_wp2
           go_roundw
           case rel => exact ⟨k + 1,by go_num,by omega,unhide Ho3,unhide Hbb5⟩
           case measure => simp [intOf]; omega
         · cases h1
           go_wp2_with (at_builtin; refine wpList_append_own _ rfl _ _ 27 rfl w.heap.size 3 i3 (.int .i64 0) 1 8 Tryz.underlying27 hi3 hz30 hz31 hz32 rfl (by decide) _ _ _ rfl (unhide Ho5) ⟨g5,0,none⟩ 0 _ [] rfl rfl (by simp) (by simp) (by unfold maxLen; omega) (by omega) (by omega) ?_)
           intro v' W3 hown' hgrow _
           have Hb3:=hide ((unhide Hbb5).grown hgrow (by omega) (fun j hj => ((unhide Ho5).lt j hj).1))
           have Ho3':=hide (show W3.ownsRow w.heap.size 3 1 v' (nxtL G ok ((ownN G r).take (k + 1))).length (vints (nxtL G ok ((ownN G r).take (k + 1)))) by rw [unhide Hs,show rulesL G.nk prt = [] from h]; simpa using hown')
           clear hown' hgrow
           go_wp2
           go_roundw
           case rel => exact ⟨k + 1,by go_num,by omega,unhide Ho3',unhide Hb3⟩
           case measure => simp [intOf]; omega
       · have Hnw:=hide (show ∀ j u,(vints (rulesL G.kinds.length prt))[j]? = some u → w5.cell? (Addr.add ⟨b5,o5,none⟩ j) = some u by
           intro j u hu
           unfold vints at hu
           rw [List.getElem?_map] at hu
           obtain ⟨x,hx,rfl⟩:=Option.map_eq_some_iff.1 hu
           have hj:=(List.getElem?_eq_some_iff.1 hx).1
           rw [show Addr.add ⟨b5,o5,none⟩ j = ⟨b5,o5 + j,none⟩ by cases j <;> simp [Addr.add],h3 j hj,List.getD_eq_getElem?_getD,hx]
           rfl)
         clear h3 how5 ho5 hbb5
         generalize rulesL G.kinds.length prt = rl at *
         go_wp2_with (at_builtin; refine wpList_append_own _ rfl _ _ 27 rfl w.heap.size 3 i3 (.int .i64 0) 1 8 Tryz.underlying27 hi3 hz30 hz31 hz32 rfl (by decide) _ _ _ rfl (unhide Ho5) ⟨b5,o5,none⟩ rl.length vc (vints rl) rfl (by rw [vints_len,Nat.mul_one]) (unhide Hnw) (vints_one _) (by unfold maxLen; omega) (by omega) (by omega) ?_)
         intro v' W3 hown' hgrow _
         have Hb3:=hide ((unhide Hbb5).grown hgrow (by omega) (fun j hj => ((unhide Ho5).lt j hj).1))
         have Ho3:=hide (show W3.ownsRow w.heap.size 3 1 v' (nxtL G ok ((ownN G r).take (k + 1))).length (vints (nxtL G ok ((ownN G r).take (k + 1)))) by rw [unhide Hs,List.length_append,vints_app]; exact hown')
         clear hown' hgrow
         go_wp2
         go_roundw
         case rel => exact ⟨k + 1,by go_num,by omega,unhide Ho3,unhide Hb3⟩
         case measure => simp [intOf]; omega
     · have hk3:ok q = false:=by simpa using hk2
       rw [hk3]
       rw [hk3] at Hs
       have Ho3:=hide (show w2.ownsRow w.heap.size 3 1 (.slice ua acc.length uc) (nxtL G ok ((ownN G r).take (k + 1))).length (vints (nxtL G ok ((ownN G r).take (k + 1)))) by rw [unhide Hs]; simpa using hown2)
       have Hb3:=hide hbb
       clear hown2 hbb
       go_wp2
       go_roundw
       case rel => exact ⟨k + 1,by go_num,by omega,unhide Ho3,unhide Hb3⟩
       case measure => simp [intOf]; omega
   · obtain rfl:k = (ownN G r).length:=by omega
     rw [List.take_of_length_le (Nat.le_refl _)] at hown ⊢
     have Hown:=hide hown; have Hb:=hide hb
     clear hown hb hgr hxn tco
     go_wp2
     go_ret
     exact ⟨_,rfl,unhide Hown,unhide Hb⟩
end Go.Proofs.YtagohbpbgjelaaaGreatDoor

/- What is reached, plainly: a list that grows while it is gone through. -/
namespace Go.Proofs.YtagohbpbgjelaaaGreatDoor
open Go.RowKit

theorem rulesL_mem {nk:Nat} {row:List Int} {y:Int}:y ∈ rulesL nk row ↔ ∃ x,x ∈ row ∧ (nk:Int) ≤ x ∧ y = x - nk:=by
 unfold rulesL
 rw [List.mem_flatMap]
 constructor
 · rintro ⟨x,h1,h2⟩
   split at h2
   · rename_i h; simp at h2; exact ⟨x,h1,by first | omega | (simp at h; omega),h2⟩
   · simp at h2
 · rintro ⟨x,h1,h2,rfl⟩
   exact ⟨x,h1,by rw [if_pos (by first | omega | (simp; omega))]; simp⟩
theorem nxtL_mem {G:Gm} {ok:Nat → Bool} {r:Nat} {y:Int}:y ∈ nxtL G ok (ownN G r) ↔ ∃ q,q < G.prods.length ∧ (G.prods.getD q pd0).left.toNat = r ∧ ok q = true ∧ y ∈ rulesL G.nk (G.prods.getD q pd0).right:=by
 unfold nxtL ownN
 rw [List.mem_flatMap]
 constructor
 · rintro ⟨q,h1,h2⟩
   simp only [List.mem_filter,List.mem_range,decide_eq_true_eq] at h1
   split at h2
   · rename_i h; exact ⟨q,h1.1,h1.2,h,h2⟩
   · simp at h2
 · rintro ⟨q,h1,h2,h3,h4⟩
   exact ⟨q,by simp only [List.mem_filter,List.mem_range,decide_eq_true_eq]; exact ⟨h1,h2⟩,by rw [if_pos h3]; exact h4⟩
structure RcI (G:Gm) (ok:Nat → Bool) (okP:Pd → Bool) (fs:List Nat) (a:Nat):Prop where
 nd:fs.Nodup
 lt:∀ x,x ∈ fs → x < G.rules.length
 st:G.start.toNat ∈ fs
 snd:∀ x,x ∈ fs → Rchd G okP x
 le:a ≤ fs.length
 shut:∀ j,j < a → ∀ y,y ∈ nxtL G ok (ownN G (fs.getD j 0)) → y.toNat ∈ fs
theorem getD_app {l:List Nat} {y j:Nat} (h:j < l.length):(l ++ [y]).getD j 0 = l.getD j 0:=by
 rw [List.getD_eq_getElem?_getD,List.getElem?_append_left h,← List.getD_eq_getElem?_getD]
theorem rc_start {G:Gm} (hG:GOk G) (ok:Nat → Bool) (okP:Pd → Bool):RcI G ok okP [G.start.toNat] 0:=by
 have h0:=hG.s0; have h1:=hG.s1
 unfold Gm.nr at h1
 exact ⟨by simp,fun x hx => by simp at hx; subst hx; omega,by simp,fun x hx => by simp at hx; subst hx; exact .start,Nat.zero_le _,fun j hj => by omega⟩
theorem rc_push {G:Gm} {ok:Nat → Bool} {okP:Pd → Bool} {fs:List Nat} {a y:Nat} (h:RcI G ok okP fs a) (hy:y < G.rules.length) (hr:Rchd G okP y) (hn:y ∉ fs):RcI G ok okP (fs ++ [y]) a:=by
 refine ⟨?_,fun x hx => ?_,List.mem_append_left _ h.st,fun x hx => ?_,by have:=h.le; simp; omega,fun j hj z hz => ?_⟩
 · rw [List.nodup_append]
   exact ⟨h.nd,by simp,fun x hx z hz => by simp at hz; subst hz; intro e; subst e; exact hn hx⟩
 · rcases List.mem_append.1 hx with h1 | h1
   · exact h.lt x h1
   · simp at h1; subst h1; exact hy
 · rcases List.mem_append.1 hx with h1 | h1
   · exact h.snd x h1
   · simp at h1; subst h1; exact hr
 · rw [getD_app (by have:=h.le; omega)] at hz
   exact List.mem_append_left _ (h.shut j hj z hz)
theorem rc_next {G:Gm} {ok:Nat → Bool} {okP:Pd → Bool} {fs:List Nat} {a:Nat} (h:RcI G ok okP fs a) (ha:a < fs.length) (hs:∀ y,y ∈ nxtL G ok (ownN G (fs.getD a 0)) → y.toNat ∈ fs):RcI G ok okP fs (a + 1) :=
 ⟨h.nd,h.lt,h.st,h.snd,ha,fun j hj y hy => by
   by_cases e:j = a
   · subst e; exact hs y hy
   · exact h.shut j (by omega) y hy⟩
theorem rc_reach {G:Gm} {ok:Nat → Bool} {okP:Pd → Bool} (hok:∀ q,q < G.prods.length → ok q = okP (G.prods.getD q pd0)) (hG:GOk G) {r:Nat} (hr:Rchd G okP r) {y:Int} (hy:y ∈ nxtL G ok (ownN G r)):Rchd G okP y.toNat ∧ 0 ≤ y ∧ y.toNat < G.rules.length:=by
 obtain ⟨q,h1,h2,h3,h4⟩:=nxtL_mem.1 hy
 obtain ⟨x,h5,h6,rfl⟩:=rulesL_mem.1 h4
 have h7:=hG.py _ (mem_getP h1) x h5
 unfold Gm.nr at h7
 refine ⟨.step (G.prods.getD q pd0) (mem_getP h1) (by rw [← hok q h1]; exact h3) (by rw [h2]; exact hr) x h5 h6,by omega,by omega⟩
theorem rc_len {G:Gm} {ok:Nat → Bool} {okP:Pd → Bool} {fs:List Nat} {a:Nat} (h:RcI G ok okP fs a):fs.length ≤ G.rules.length:=by
 have:=Wk.nodup_bound G.rules.length (castL fs) (by
   unfold castL
   refine List.Pairwise.map (R:=(· ≠ ·)) _ (fun a b hab e => hab (by omega)) h.nd) (fun x hx => by
   obtain ⟨y,hy,rfl⟩:=castL_mem.1 hx
   have:=h.lt y hy
   omega)
 rwa [castL_len] at this
theorem rc_end {G:Gm} {ok:Nat → Bool} {okP:Pd → Bool} (hok:∀ q,q < G.prods.length → ok q = okP (G.prods.getD q pd0)) {fs:List Nat} (h:RcI G ok okP fs fs.length):(fun r => decide (r ∈ fs)) = rchF G okP:=by
 refine rch_done ⟨by simpa using h.st,fun r hr => h.snd r (by simpa using hr)⟩ (fun i hi hl ho x hx hk => ?_)
 simp only [decide_eq_true_eq] at hl ⊢
 obtain ⟨j,hj,e⟩:=List.getElem_of_mem hl
 have:=h.shut j hj (x - G.nk) (nxtL_mem.2 ⟨i,hi,by rw [show fs.getD j 0 = fs[j] by rw [List.getD_eq_getElem?_getD,List.getElem?_eq_getElem hj]; rfl]; exact e.symm,by rw [hok i hi]; exact ho,rulesL_mem.2 ⟨x,hx,hk,rfl⟩⟩)
 exact this
end Go.Proofs.YtagohbpbgjelaaaGreatDoor

/- The code's toThemselves: which rules lead to themselves. -/
namespace Go.Proofs.YtagohbpbgjelaaaGreatDoor
open Go.RowKit

open Classical in
/-- A rule leads to itself, by one step or more. -/
noncomputable def selfF (W:Nat → List Nat):Nat → Bool:=fun r => decide (∃ y,y ∈ W r ∧ Rh W y r)
theorem selfF_is {W:Nat → List Nat} {n:Nat} {made:List (List Nat)} (hR:Rings W n made) {i x:Nat} {a:List Nat} (ha:made[i]? = some a) (hx:x ∈ a):selfF W x = (decide (1 < a.length) || decide (x ∈ W x)):=by
 have h:=ring_self hR ha hx
 have h1:selfF W x = true ↔ ∃ y,y ∈ W x ∧ Rh W y x:=by unfold selfF; simp
 rw [Bool.eq_iff_iff,h1,h]
 simp
theorem way_big {B B':Nat} {w:World} {tb n:Nat} {W:Nat → List Nat} (h:WayAt B w tb n W) (hB:B ≤ B'):WayAt B' w tb n W:=by
 refine ⟨by have:=h.1; omega,fun r hr => ?_⟩
 obtain ⟨a,c,h1,h2⟩:=h.2 r hr
 refine ⟨a,c,h1,?_⟩
 rcases h2 with h2 | ⟨b,off,h3,h4,h5⟩
 · exact .inl h2
 · exact .inr ⟨b,off,h3,by omega,h5⟩
theorem contains_any (a:Option Addr) (c:Nat) (l:List Nat) (x:Nat) (hl:l.length ≤ 1048576) (B:Nat) (w:World) (h:NRow B w a (castL l)):Calls Tryz.prog 126 #[.slice a l.length c,.int .i64 (x:Nat)] w fun e w' => e = .returned (.bool (decide (x ∈ l))) ∧ w' = w:=by
 have e1:(castL l).length = l.length:=castL_len l
 rcases h with h | ⟨b,off,rfl,h1,h2⟩
 · have:l = []:=by
     cases l with
     | nil => rfl
     | cons y l => simp [castL] at h
   subst this
   exact Tryz.slices_Contains_int_empty a c x w
 · have h3:=Tryz.slices_Contains_int b off l.length c (castL l) x w (by omega) (by omega) h2
   rw [List.take_of_length_le (by omega)] at h3
   have e2:(castL l).contains (x:Int) = decide (x ∈ l):=by
     rw [Bool.eq_iff_iff,decide_eq_true_eq,List.contains_iff_mem]
     unfold castL
     rw [List.mem_map]
     exact ⟨fun ⟨y, h4, h5⟩ => by have : y = x := by omega
                                  exact this ▸ h4,fun h4 => ⟨x,h4,rfl⟩⟩
   rw [e2] at h3
   exact h3
set_option maxHeartbeats 2000000 in
set_option maxRecDepth 100000 in
theorem toThemselves_any (W : Nat → List Nat) (n wb wcp : Nat) (hn : n ≤ 2048) (hW : ∀ r, r < n → ∀ y, y ∈ W r → y < n) (hWl : ∀ r, (W r).length ≤ 1048576) (w : World) (hWay : WayAt w.heap.size w wb n W) :
   Calls Tryz.prog 89 #[.slice (some ⟨wb,0,none⟩) n wcp] w fun e w' => ∃ b:Nat,e = .returned (.slice (some ⟨b,0,none⟩) n n) ∧ w'.rowIs b 4 n (fun r => .bool (selfF W r)) ∧ w.heap.size ≤ b ∧ Below w.heap.size w w':=by
 have hmb:=fun w => run_make_row' (P:=Tryz.prog) 28 4 (.bool false) 1 Tryz.underlying28 info4 rfl .i64 .i64 n (by omega) (by omega) w
 have hal:Below w.heap.size w (w.alloc (.cells (madeCells #[.bool false] n) 4)):=(Below.refl _ _).alloc (Nat.le_refl _) _
 have HR:=hide (rings_any W n wb wcp hn hW hWl _ (way_big (way_below hWay hal) hal.size))
 have Hrow:=hide (World.rowIs_made w (.bool false) n 4)
 have HW:=hide hWay; have Hal:=hide hal
 have hszA:(w.alloc (.cells (madeCells #[.bool false] n) 4)).heap.size = w.heap.size + 1:=by simp
 clear hWay hal
 go_enter Tryz.func89,Tryz.ntmps89
 go_wp2_with fail
 generalize w.alloc (.cells (madeCells #[.bool false] n) 4) = w0 at *
 refine (unhide HR).mono ?_
 rintro e w1 ⟨v1,made,rfl,hRi,hml,hRa,hb1⟩
 obtain ⟨ra,rc,rfl⟩:=(show ∃ a c,v1 = .slice a made.length c by obtain ⟨vs,h1,-⟩:=hRa.form; exact own_form h1)
 have hrow1:=(unhide Hrow).of_block (hb1.block _ (unhide Hrow).lt)
 have Hrow1:=hide hrow1
 have Hb1:=hide ((unhide Hal).trans (below_le hb1 (by omega))); have HRi:=hide hRi; have HRa:=hide hRa
 have hs1:=hb1.size
 clear hb1 hRi hRa HR hrow1
 go_wp2
 go_loopw [14] (fun x V => ∃ (i:Nat) (f:Nat → Bool),x = .int .i64 i ∧ i ≤ made.length ∧ V.rowIs w.heap.size 4 n (fun r => .bool (f r)) ∧ (∀ (j:Nat) (a:List Nat) (x:Nat),j < i → made[j]? = some a → x ∈ a → f x = selfF W x) ∧ Fr (· = w.heap.size) w1 V) (fun x _ => made.length - (intOf x).toNat)
 case atStart => exact ⟨0,fun _ => false,rfl,Nat.zero_le _,unhide Hrow1,fun j a x h => by omega,fr_refl _ _⟩
 case round =>
   obtain ⟨i,f,rfl,hi,hrow,hf,hF⟩:=hrel
   have hkeep:∀ V,Fr (· = w.heap.size) w1 V → RingsAt w0.heap.size V (.slice ra made.length rc) made:=fun V hV => rings_below (unhide HRa) (fun q cs t hq _ hge => hV.2.1 q (Array.getElem?_eq_some_iff.1 hq).1 (fun e => by have e:q = w.heap.size:=e; omega))
   by_cases hlt:i < made.length
   · have hlt':(i:Int) < made.length:=by omega
     obtain ⟨a,ha⟩:∃ a,made[i]? = some a:=⟨made[i],List.getElem?_eq_getElem hlt⟩
     obtain ⟨va,vc,g,c,hv,hc1,hc2⟩:=ring_at (hkeep _ hF) ha
     cases hv
     have hal:a.length ≤ 2048:=by
       have:=nodup_lt ((unhide HRi).nd i _ ha) (fun x hx => (unhide HRi).lt i _ x ha hx)
       omega
     have Hc2:Hid (∀ V',Fr (· = w.heap.size) w1 V' → ∀ j x:Nat,a[j]? = some x → V'.cell? ⟨g,j,none⟩ = some (.int .i64 (x:Nat))):=hide (fun V' hV' j x hx => by
       obtain ⟨va',vc',g',c',hv',d1,d2⟩:=ring_at (hkeep V' hV') ha
       cases hv'
       have e1:V'.cell? ⟨va,i,none⟩ = wr.cell? ⟨va,i,none⟩:=by
         obtain ⟨vs,q1,-⟩:=(unhide HRa).form
         obtain ⟨cs,q2⟩:=own_ty q1 rfl
         have hge:=(q1.lt va rfl).1
         have hl:=(q1.lt va rfl).2
         exact World.cell?_of_block ((hV'.2.1 va hl (fun e => by have e:va = w.heap.size:=e; omega)).trans (hF.2.1 va hl (fun e => by have e:va = w.heap.size:=e; omega)).symm)
       rw [d1,hc1] at e1
       cases e1
       exact d2 j x hx)
     have Hsf:=hide (fun x (hx:x ∈ a) => selfF_is (unhide HRi) ha hx)
     have Hrow:=hide hrow; have Hf:=hide hf; have HF:=hide hF; have Hha:=hide ha
     clear hrow hf hF ha hc2 hkeep
     go_wp2
     go_loopw [20] (fun x V => ∃ (p:Nat) (f:Nat → Bool),x = .int .i64 p ∧ p ≤ a.length ∧ V.rowIs w.heap.size 4 n (fun r => .bool (f r)) ∧ (∀ (j:Nat) (b:List Nat) (x:Nat),j < i → made[j]? = some b → x ∈ b → f x = selfF W x) ∧ (∀ x,x ∈ a.take p → f x = selfF W x) ∧ Fr (· = w.heap.size) w1 V) (fun x _ => a.length - (intOf x).toNat)
     case atStart => exact ⟨0,f,rfl,Nat.zero_le _,unhide Hrow,unhide Hf,fun x hx => by simp at hx,unhide HF⟩
     case round =>
       clear Hrow Hf HF
       obtain ⟨p,f,rfl,hp,hrow,hf,hfa,hF⟩:=hrel
       by_cases hpl:p < a.length
       · have hpl':(p:Int) < a.length:=by omega
         have hxa:a[p]? = some (a.getD p 0):=by rw [List.getD_eq_getElem?_getD,List.getElem?_eq_getElem hpl]; rfl
         have hxm:=List.mem_of_getElem? hxa
         have hxn:=(unhide HRi).lt i _ _ (unhide Hha) hxm
         have hcx:=unhide Hc2 wr hF p _ hxa
         have hsx:=unhide Hsf _ hxm
         have hbV:Below w.heap.size w wr:=(unhide Hb1).trans (fr_below hF (by omega) (fun k hk => by have hk:k = w.heap.size:=hk; omega))
         obtain ⟨xa,xc,hwc,hwr⟩:=(way_below (unhide HW) hbV).2 _ hxn
         have HC:=hide (contains_any xa xc (W (a.getD p 0)) (a.getD p 0) (hWl _) _ wr hwr)
         have mc:=hrow.cell hxn
         have mf:=hrow.frozen (a.getD p 0)
         have Hrs:Hid ((wr.setCell ⟨w.heap.size,a.getD p 0,none⟩ (.bool (selfF W (a.getD p 0)))).rowIs w.heap.size 4 n (fun r => .bool (upB f (a.getD p 0) (selfF W (a.getD p 0)) r))):=hide ((hrow.set _ _).congr (fun q _ => by unfold upB; split <;> rfl))
         have Hf2:=hide (show ∀ (j:Nat) (b:List Nat) (x:Nat),j < i → made[j]? = some b → x ∈ b → upB f (a.getD p 0) (selfF W (a.getD p 0)) x = selfF W x from fun j b x h1 h2 h3 => by
           by_cases e:x = a.getD p 0
           · rw [e,upB_self]
           · rw [upB_ne e]; exact hf j b x h1 h2 h3)
         have Hfa2:=hide (show ∀ x,x ∈ a.take (p + 1) → upB f (a.getD p 0) (selfF W (a.getD p 0)) x = selfF W x from fun x hx => by
           by_cases e:x = a.getD p 0
           · rw [e,upB_self]
           · rw [upB_ne e]; exact hfa x (((take_mem_succ hpl x).1 hx).resolve_right e))
         have HFs:=hide (show Fr (· = w.heap.size) w1 (wr.setCell ⟨w.heap.size,a.getD p 0,none⟩ (.bool (selfF W (a.getD p 0)))) from fr_set hF (by rfl) _)
         generalize hxe:a.getD p 0 = x at *
         have hxn':(x:Int) < n:=by omega
         have hwl:=hWl x
         clear hrow hf hfa hF hxa hxm hbV hwr
         by_cases h1:1 < a.length
         · have h1':(1:Int) < a.length:=by omega
           rw [decide_eq_true h1,Bool.true_or] at hsx
           rw [hsx] at Hrs HFs Hf2 Hfa2
           go_wp2
           go_roundw
           case rel => exact ⟨p + 1,_,by go_num,by omega,unhide Hrs,unhide Hf2,unhide Hfa2,unhide HFs⟩
           case measure => simp [intOf]; omega
         · have h1':¬ (1:Int) < a.length:=by omega
           rw [decide_eq_false h1,Bool.false_or] at hsx
           rw [hsx] at Hrs HFs Hf2 Hfa2
           generalize decide (x ∈ W x) = bx at *
           go_wp2_with fail
           refine (unhide HC).mono ?_
           rintro e w9 ⟨rfl,rfl⟩
           go_wp2
           go_roundw
           case rel => exact ⟨p + 1,_,by go_num,by omega,unhide Hrs,unhide Hf2,unhide Hfa2,unhide HFs⟩
           case measure => simp [intOf]; omega
       · obtain rfl:p = a.length:=by omega
         rw [List.take_length] at hfa
         have Hf3:=hide (show ∀ (j:Nat) (b:List Nat) (x:Nat),j < i + 1 → made[j]? = some b → x ∈ b → f x = selfF W x from fun j b x h1 h2 h3 => by
           by_cases e:j = i
           · subst e; rw [unhide Hha] at h2; cases h2; exact hfa x h3
           · exact hf j b x (by omega) h2 h3)
         have Hrow:=hide hrow; have HF:=hide hF
         clear hrow hf hfa hF
         go_wp2
         go_roundw
         case rel => exact ⟨i + 1,f,by go_num,by omega,unhide Hrow,unhide Hf3,unhide HF⟩
         case measure => simp [intOf]; omega
   · obtain rfl:i = made.length:=by omega
     have Hrw:Hid (wr.rowIs w.heap.size 4 n (fun r => .bool (selfF W r))):=hide (hrow.congr (fun r hr => by
       obtain ⟨j,a,h1,h2⟩:=(unhide HRi).cov r hr
       rw [hf j a r (List.getElem?_eq_some_iff.1 h1).1 h1 h2]))
     have HbV:=hide ((unhide Hb1).trans (fr_below hF (by omega) (fun k hk => by have hk:k = w.heap.size:=hk; omega)))
     clear hrow hf hF hkeep
     go_wp2
     go_ret
     exact ⟨w.heap.size,rfl,unhide Hrw,Nat.le_refl _,unhide HbV⟩
end Go.Proofs.YtagohbpbgjelaaaGreatDoor

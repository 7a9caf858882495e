/- The code's alone: the rules of a row that can stand alone. -/
import Derived.Test.YtagohbpbgjelaaaGreatDoorGY
import Derived.Test.YtagohbpbgjelaaaGreatDoorB1
import Derived.Test.YtagohbpbgjelaaaGreatDoorSP
import Derived.Test.YtagohbpbgjelaaaGreatDoorW1
import Derived.Test.YtagohbpbgjelaaaGreatDoorGX
import Derived.Test.YtagohbpbgjelaaaGreatDoorM2
import Derived.Test.YtagohbpbgjelaaaGreatDoorH2
namespace Go.Proofs.YtagohbpbgjelaaaGreatDoor
open Go.RowKit

/-- A symbol that can't go. -/
noncomputable def firmB (G:Gm) (x:Int):Bool:=!(decide ((G.nk:Int) ≤ x) && nullF G (x - G.nk).toNat)
noncomputable def firmL (G:Gm) (row:List Int):List Int:=row.filter (firmB G)
theorem firmL_take (G:Gm) (row:List Int) (k:Nat) (hk:k < row.length):firmL G (row.take (k + 1)) = firmL G (row.take k) ++ if firmB G (row.getD k 0) then [row.getD k 0] else []:=by
 unfold firmL
 rw [take_snoc row k 0 hk,List.filter_append]
 congr 1
 generalize row.getD k 0 = x
 by_cases h:firmB G x = true
 · rw [if_pos h]; simp [h]
 · rw [if_neg h]; simp [h]
theorem firmL_len (G:Gm) (row:List Int):(firmL G row).length ≤ row.length:=List.length_filter_le _ _
noncomputable def aloneL (G:Gm) (row:List Int):List Int:=if (firmL G row).length = 0 then rulesL G.nk row else if (firmL G row).length = 1 then rulesL G.nk (firmL G row) else []
theorem bgAt_below {M:Nat} {w w':World} {G:Gm} {bb nb sb sc gb:Nat} {A:Nat → Nat} (h:BgAt M w G bb nb sb sc gb A) (hb:Below w.heap.size w w'):BgAt M w' G bb nb sb sc gb A:=by
 obtain ⟨OO,rep,C,h1,h2⟩:=h.st
 exact ⟨(hb.block _ (Array.getElem?_eq_some_iff.1 h.bx).1).trans h.bx,h.nu.of_block (hb.block _ h.nu.lt),⟨OO,rep,C,sets_below h1 hb,h2⟩,h.b1,h.b2⟩
set_option maxHeartbeats 2000000 in
set_option maxRecDepth 100000 in
theorem alone_any (G : Gm) (hG : GOk G) (ka : Option Addr) (kc gb bb nb : Nat) (sv : Value) (ro : Option Addr) (rowc : Nat) (row : List Int) (hl : row.length ≤ 64) (hx : symsIn (G.nk + G.nr) row) (w : World) (hgb : gb < w.heap.size) (hc0 : w.cell? ⟨gb, 0, none⟩ = some (.slice ka G.kinds.length kc)) (hbx : w.heap[bb]? = some (.cells #[.pointer (some ⟨gb, 0, none⟩), .slice (some ⟨nb, 0, none⟩) G.rules.length G.rules.length, sv] 64 (0, 0))) (hnu : w.rowIs nb 4 G.rules.length (fun r => .bool (nullF G r))) (hrow : NRow w.heap.size w ro row) :
   Calls Tryz.prog 88 #[.pointer (some ⟨bb,0,none⟩),.slice ro row.length rowc] w fun e w' => ∃ v,e = .returned v ∧ w'.ownsRow w.heap.size 3 1 v (aloneL G row).length (vints (aloneL G row)) ∧ Below w.heap.size w w':=by
 obtain ⟨i3,hi3,hz30,hz31,hz32⟩:=info_parts info3
 have hk3:=hG.k3; have hr2:=hG.r2
 unfold Gm.nk at hk3
 unfold Gm.nr at hr2
 have hnot:=run_not
 have Hc0:=hide hc0; have Hrow:=hide hrow; have Hx:=hide hx; have Hbx:=hide hbx; have Hnu:=hide hnu
 clear hc0 hrow hx hbx hnu
 go_enter Tryz.func88,Tryz.ntmps88
 go_wp2
 go_loopw [5,12] (fun u x W => ∃ k:Nat,x = .int .i64 k ∧ k ≤ row.length ∧ W.ownsRow w.heap.size 3 1 u (firmL G (row.take k)).length (vints (firmL G (row.take k))) ∧ Below w.heap.size w W) (fun _ x _ => row.length - (intOf x).toNat)
 case atStart => exact ⟨0,rfl,Nat.zero_le _,World.ownsRow_nil _ _ _ _,Below.refl _ _⟩
 case round =>
   obtain ⟨k,rfl,hk,hown,hb⟩:=hrel
   obtain ⟨ua,uc,rfl⟩:=own_form hown
   have hsz:=hb.size
   have hle:=firmL_len G (row.take k)
   rw [List.length_take] at hle
   have hbx:=(hb.block _ (Array.getElem?_eq_some_iff.1 (unhide Hbx)).1).trans (unhide Hbx)
   have hnuw:=(unhide Hnu).of_block (hb.block _ (unhide Hnu).lt)
   have b0:wr.cell? ⟨bb,0,none⟩ = some (.pointer (some ⟨gb,0,none⟩)):=by unfold World.cell?; rw [hbx]; rfl
   have b1:wr.cell? ⟨bb,1,none⟩ = some (.slice (some ⟨nb,0,none⟩) G.rules.length G.rules.length):=by unfold World.cell?; rw [hbx]; rfl
   have c0:=(hb.cell (p:=⟨gb,0,none⟩) hgb).trans (unhide Hc0)
   have Hown:=hide hown; have Hb:=hide hb
   clear hbx
   by_cases hlt:k < row.length
   · have hlt':(k:Int) < row.length:=by omega
     obtain ⟨b,off,rfl,hbl,hc⟩:=nrow_at (nrow_kept hb (unhide Hrow)) hlt
     have hxk:=unhide Hx _ (mem_getD hlt)
     unfold Gm.nk Gm.nr at hxk
     have Hs:=hide (firmL_take G row k hlt)
     have HR:=hide (rule_any gb (row.getD k 0) G.kinds.length ka kc hk3 (by omega) wr c0)
     have hfb:firmB G (row.getD k 0) = !(decide ((G.kinds.length:Int) ≤ row.getD k 0) && nullF G (row.getD k 0 - (G.kinds.length:Nat)).toNat):=rfl
     clear hown hb
     generalize row.getD k 0 = x at *
     generalize hFm:firmL G (row.take k) = acc at *
     have App:∀ (hf:firmB G x = true),Hid (firmL G (row.take (k + 1)) = acc ++ [x]):=fun hf => hide (by have:=unhide Hs; rw [if_pos hf] at this; exact this)
     by_cases hr:(G.kinds.length:Int) ≤ x
     · rw [if_pos hr,decide_eq_true hr] at HR
       rw [decide_eq_true hr,Bool.true_and] at hfb
       obtain ⟨y,hy⟩:∃ y:Nat,x - G.kinds.length = (y:Int):=⟨(x - G.kinds.length).toNat,by omega⟩
       rw [hy] at HR hfb
       rw [Int.toNat_natCast] at hfb
       have hyn:y < G.rules.length:=by omega
       have hyn':(y:Int) < G.rules.length:=by omega
       have ny:=hnuw.cell hyn
       cases hnu:nullF G y with
       | true =>
         rw [hnu] at hfb ny
         have Hs2:Hid (firmL G (row.take (k + 1)) = acc):=hide (by have:=unhide Hs; rw [hfb] at this; simpa using this)
         clear App Hs hfb hnuw
         go_wp2_with fail
         refine (unhide HR).mono ?_
         rintro e w9 ⟨rfl,rfl⟩
         go_wp2
         go_roundw
         case rel => exact ⟨k + 1,by go_num,by omega,by rw [unhide Hs2]; exact unhide Hown,unhide Hb⟩
         case measure => simp [intOf]; omega
       | false =>
         rw [hnu] at hfb ny
         have Hs2:=App hfb
         clear App Hs hfb hnuw
         go_wp2_with fail
         refine (unhide HR).mono ?_
         rintro e w9 ⟨rfl,rfl⟩
         go_wp2_with (at_builtin; refine wpList_append_own _ rfl _ _ 27 rfl w.heap.size 3 i3 (.int .i64 0) 1 8 Tryz.underlying27 hi3 hz30 hz31 hz32 rfl (by decide) _ _ _ rfl ((unhide Hown).alloc _) ⟨wr.heap.size,0,none⟩ 1 1 [.int .i64 x] rfl rfl (new1 _ _ _) ?zc2 ?zc3 ?zc4 ?zc5 ?_)
         case zc2 => intro u hu; simp at hu; rcases hu with rfl; rfl
         case zc3 => unfold maxLen; omega
         case zc4 => omega
         case zc5 => simp; omega
         intro v' W3 hown' hgrow _
         have Hb4:=hide (((unhide Hb).alloc hsz _).grown hgrow (by simp; omega) (fun j hj => ((unhide Hown).lt j hj).1))
         have Ho4:=hide (show W3.ownsRow w.heap.size 3 1 v' (firmL G (row.take (k + 1))).length (vints (firmL G (row.take (k + 1)))) by rw [unhide Hs2,← vints_snoc,List.length_append]; exact hown')
         clear hown' hgrow
         go_wp2
         go_roundw
         case rel => exact ⟨k + 1,by go_num,by omega,unhide Ho4,unhide Hb4⟩
         case measure => simp [intOf]; omega
     · rw [if_neg hr,decide_eq_false hr] at HR
       rw [decide_eq_false hr] at hfb
       have Hs2:=App hfb
       clear App Hs hfb hnuw
       go_wp2_with fail
       refine (unhide HR).mono ?_
       rintro e w9 ⟨rfl,rfl⟩
       go_wp2_with (at_builtin; refine wpList_append_own _ rfl _ _ 27 rfl w.heap.size 3 i3 (.int .i64 0) 1 8 Tryz.underlying27 hi3 hz30 hz31 hz32 rfl (by decide) _ _ _ rfl ((unhide Hown).alloc _) ⟨wr.heap.size,0,none⟩ 1 1 [.int .i64 x] rfl rfl (new1 _ _ _) ?zc2 ?zc3 ?zc4 ?zc5 ?_)
       case zc2 => intro u hu; simp at hu; rcases hu with rfl; rfl
       case zc3 => unfold maxLen; omega
       case zc4 => omega
       case zc5 => simp; omega
       intro v' W3 hown' hgrow _
       have Hb4:=hide (((unhide Hb).alloc hsz _).grown hgrow (by simp; omega) (fun j hj => ((unhide Hown).lt j hj).1))
       have Ho4:=hide (show W3.ownsRow w.heap.size 3 1 v' (firmL G (row.take (k + 1))).length (vints (firmL G (row.take (k + 1)))) by rw [unhide Hs2,← vints_snoc,List.length_append]; exact hown')
       clear hown' hgrow
       go_wp2
       go_roundw
       case rel => exact ⟨k + 1,by go_num,by omega,unhide Ho4,unhide Hb4⟩
       case measure => simp [intOf]; omega
   · obtain rfl:k = row.length:=by omega
     rw [List.take_length] at Hown hown ⊢
     have hsr:∀ x,x ∈ row → 0 ≤ x ∧ x ≤ 281474976710656:=fun x hx => by have:=unhide Hx x hx; unfold Gm.nk Gm.nr at this; omega
     have HA:=hide (rulesOf_any gb G.kinds.length ka kc hk3 ro rowc row (by omega) hsr wr c0 (by omega) (nrow_big hsz (nrow_kept hb (unhide Hrow))))
     have hfn:NRow wr.heap.size wr ua (firmL G row):=by
       obtain ⟨_,_,he,hn⟩:=own_nrow hown
       cases he
       exact hn
     have hfl:=firmL_len G row
     have HF:=hide (rulesOf_any gb G.kinds.length ka kc hk3 ua uc (firmL G row) (by omega) (fun x hx => hsr x (List.mem_filter.1 hx).1) wr c0 (by omega) hfn)
     have Hal:Hid (aloneL G row = if (firmL G row).length = 0 then rulesL G.kinds.length row else if (firmL G row).length = 1 then rulesL G.kinds.length (firmL G row) else []):=hide rfl
     clear hown hb hfn hnuw
     by_cases h0:(firmL G row).length = 0
     · rw [if_pos h0] at Hal
       have h0':((firmL G row).length:Int) = 0:=by omega
       rw [h0] at HF ⊢
       go_wp2_with fail
       refine (unhide HA).mono ?_
       rintro e w9 ⟨v9,rfl,ho9,hb9⟩
       have Ho9:=hide (show w9.ownsRow w.heap.size 3 1 v9 (aloneL G row).length (vints (aloneL G row)) by rw [unhide Hal]; exact own_base ho9 hsz)
       have Hb9:=hide ((unhide Hb).trans (below_le hb9 hsz))
       clear ho9 hb9
       go_wp2
       go_ret
       exact ⟨v9,rfl,unhide Ho9,unhide Hb9⟩
     · rw [if_neg h0] at Hal
       by_cases h1:(firmL G row).length = 1
       · rw [if_pos h1] at Hal
         rw [h1] at HF ⊢
         go_wp2_with fail
         refine (unhide HF).mono ?_
         rintro e w9 ⟨v9,rfl,ho9,hb9⟩
         have Ho9:=hide (show w9.ownsRow w.heap.size 3 1 v9 (aloneL G row).length (vints (aloneL G row)) by rw [unhide Hal]; exact own_base ho9 hsz)
         have Hb9:=hide ((unhide Hb).trans (below_le hb9 hsz))
         clear ho9 hb9
         go_wp2
         go_ret
         exact ⟨v9,rfl,unhide Ho9,unhide Hb9⟩
       · rw [if_neg h1] at Hal
         have h0':¬ ((firmL G row).length:Int) = 0:=by omega
         have h1':¬ ((firmL G row).length:Int) = 1:=by omega
         generalize (firmL G row).length = fl at *
         go_wp2
         go_ret
         exact ⟨_,rfl,by rw [unhide Hal]; exact World.ownsRow_nil _ _ _ _,unhide Hb⟩
end Go.Proofs.YtagohbpbgjelaaaGreatDoor

/- The code's First. -/
namespace Go.Proofs.YtagohbpbgjelaaaGreatDoor
open Go.RowKit

theorem smG_ok {G:Gm} (hG:GOk G):smG G:=fun p hp => by have:=hG.pr p hp; omega
end Go.Proofs.YtagohbpbgjelaaaGreatDoor

/- Which productions lead: every one; those whose rules are all marked. -/
namespace Go.Proofs.YtagohbpbgjelaaaGreatDoor
open Go.RowKit

theorem everyProd_any (q:Nat) (w:World):Calls Tryz.prog 33 (#[.int .i64 (q:Int)] ++ #[]) w fun e w' => e = .returned (.bool true) ∧ w' = w:=by
 show Calls Tryz.prog 33 #[.int .i64 (q:Int)] w _
 go_enter Tryz.func33,Tryz.ntmps33
 go_wp2
 go_ret
 exact ⟨rfl,rfl⟩
theorem callF33:∀ args W,Sem.run Tryz.prog (callFunc 33 args) W = .ok (.enter 33 args) W:=fun _ _ => by simp [callFunc,Tryz.func33,Tryz.f33,go_sem,Result.andThen]
end Go.Proofs.YtagohbpbgjelaaaGreatDoor

/- The code's shortest: which productions make shortest rows. -/
namespace Go.Proofs.YtagohbpbgjelaaaGreatDoor
open Go.RowKit

/-- A production's length by the lengths of its rules. -/
def lnN (G:Gm) (L:Nat → Int) (q:Nat):Int:=kcN G q + smA L (rlN G q)
/-- What is marked of the first k productions. -/
structure ShI (G:Gm) (L:Nat → Int) (B:Nat) (w W:World) (mb:Nat) (k:Nat) (ml:List Int):Prop where
 len:ml.length = G.prods.length
 own:W.ownsRow B 3 1 (.slice (some ⟨mb,0,none⟩) G.prods.length G.prods.length) G.prods.length (vints ml)
 at_:∀ q,q < G.prods.length → atZ ml q = if q < k ∧ lnN G L q ≠ L (lfN G q) then -1 else ((rlN G q).length:Int)
 bl:Below B w W
theorem shi_below {G:Gm} {L:Nat → Int} {B:Nat} {w W W':World} {mb k:Nat} {ml:List Int} (h:ShI G L B w W mb k ml) (hB:B ≤ W.heap.size) (hb:Below W.heap.size W W'):ShI G L B w W' mb k ml :=
 ⟨h.len,own_blkB h.own hb,h.at_,h.bl.trans (below_le hb hB)⟩
theorem shi_same {G : Gm} {L : Nat → Int} {B : Nat} {w W : World} {mb k : Nat} {ml : List Int} (h : ShI G L B w W mb k ml) (he : lnN G L k = L (lfN G k)) : ShI G L B w W mb (k + 1) ml :=
 ⟨h.len,h.own,fun q hq => by
   rw [h.at_ q hq]
   by_cases e:q = k
   · subst e; rw [if_neg (by rintro ⟨h1,h2⟩; omega),if_neg (by rintro ⟨h1,h2⟩; exact h2 he)]
   · by_cases e2:q < k
     · have:q < k + 1:=by omega
       simp [e2,this]
     · have:¬ q < k + 1:=by omega
       simp [e2,this],h.bl⟩
theorem shi_mark {G : Gm} {L : Nat → Int} {B : Nat} {w W : World} {mb k : Nat} {ml : List Int} (h : ShI G L B w W mb k ml) (hk : k < G.prods.length) (he : lnN G L k ≠ L (lfN G k)) : ShI G L B w (W.setCell ⟨mb, k, none⟩ (.int .i64 (-1))) mb (k + 1) (ml.set k (-1)) :=
 ⟨by rw [List.length_set]; exact h.len, own_store h.own k (-1), fun q hq => by
   have hset:atZ (ml.set k (-1)) q = if q = k then -1 else atZ ml q:=by
     unfold atZ
     rw [List.getD_eq_getElem?_getD,List.getElem?_set]
     by_cases e:k = q
     · subst e; rw [if_pos rfl,if_pos (by rw [h.len]; exact hk),if_pos rfl]; rfl
     · rw [if_neg e,if_neg (fun h => e h.symm),← List.getD_eq_getElem?_getD]
   rw [hset]
   by_cases e:q = k
   · subst e; rw [if_pos rfl,if_pos ⟨by omega,he⟩]
   · rw [if_neg e,h.at_ q hq]
     by_cases e2:q < k
     · have:q < k + 1:=by omega
       simp [e2,this]
     · have:¬ q < k + 1:=by omega
       simp [e2,this],h.bl.setCell (h.own.lt mb rfl).1 _⟩
def ShortPost (G:Gm) (L:Nat → Int) (w:World) (e:Ending) (w':World):Prop :=
 ∃ (b n:Nat) (c:Nat → Int) (el:Nat → Bool),e = .returned (.slice (some ⟨b,0,none⟩) G.rules.length G.rules.length) ∧ w'.rowIs b 3 G.rules.length (fun r => .int .i64 (c r)) ∧ c = stN (lfN G) (rlN G) el G.prods.length n ∧ stT (lfN G) (rlN G) el G.prods.length c = c ∧ (∀ q,q < G.prods.length → el q = decide (lnN G L q = L (lfN G q))) ∧ w.heap.size ≤ b ∧ Below w.heap.size w w'
set_option maxHeartbeats 2000000 in
set_option maxRecDepth 100000 in
theorem shortest_any (G : Gm) (hG : GOk G) (ka pa ra qa : Option Addr) (kc pc rc qc gb ob ub : Nat) (M : Nat) (bb : Nat) (L : Nat → Int) (hL : ∀ x, -1 ≤ L x ∧ L x ≤ 65537) (w : World) (hM : M ≤ w.heap.size) (hg : GrAt M w G ka kc pa pc ra rc qa qc gb ob ub) (hb : w.rowIs bb 3 G.rules.length (fun r => .int .i64 (L r))) :
   Calls Tryz.prog 69 #[.pointer (some ⟨gb,0,none⟩),.slice (some ⟨bb,0,none⟩) G.rules.length G.rules.length] w (ShortPost G L w):=by
 have HR:=hide (ruleCounts_any G hG ka pa ra qa kc pc rc qc gb ob ub M w hM hg)
 have c3:w.cell? ⟨gb,3,none⟩ = some (.slice qa G.prods.length qc):=by unfold World.cell?; rw [hg.box]; rfl
 have hgl:gb < w.heap.size:=by have:=hg.lt; omega
 have hr1:=hG.r1; have hr2:=hG.r2; have hps:=hG.ps; have hk3:=hG.k3
 unfold Gm.nr at hr1 hr2
 unfold Gm.nk at hk3
 have Hg:=hide hg; have Hb:=hide hb; have HL:=hide hL
 clear hg hb hL
 go_enter Tryz.func69,Tryz.ntmps69
 go_wp2_with fail
 refine (unhide HR).mono ?_
 rintro e w2 ⟨mb,ml,rfl,hml,hmv,hown,hb2⟩
 have hs2:=hb2.size
 have d3:=(hb2.cell (p:=⟨gb,3,none⟩) hgl).trans c3
 have Hst:Hid (ShI G L w.heap.size w w2 mb 0 ml):=hide ⟨hml,by rw [← hml] at hown ⊢; exact hown,fun q hq => by rw [hmv q hq,if_neg (by rintro ⟨h,-⟩; omega)],hb2⟩
 clear HR hml hmv hown hb2 c3
 go_wp2_with fail
 go_wp2
 go_loopw [16] (fun x W => ∃ (k:Nat) (ml:List Int),x = .int .i64 k ∧ k ≤ G.prods.length ∧ ShI G L w.heap.size w W mb k ml) (fun x _ => G.prods.length - (intOf x).toNat)
 case atStart => exact ⟨0,ml,rfl,Nat.zero_le _,unhide Hst⟩
 case round =>
   clear Hst
   obtain ⟨k,ml,rfl,hk,hI⟩:=hrel
   have hszv:w.heap.size ≤ wr.heap.size:=hI.bl.size
   by_cases hlt:k < G.prods.length
   · have hlt':(k:Int) < G.prods.length:=by omega
     have hgr:=gr_kept (unhide Hg) (below_le hI.bl hM)
     obtain ⟨b,off,rfl,hbB,rr,rrc,x3,x4,x5,x6,n6,c6,hrr,-,q0,q1,q2,q3,q4,q5,q6⟩:=qrow_at hgr.gin.prods hlt
     have hpl:=hG.pl _ (mem_getP hlt)
     have hpr:=hG.pr _ (mem_getP hlt)
     have hpy:=hG.py _ (mem_getP hlt)
     have eln:lnN G L k = ((G.prods.getD k pd0).right.length:Int) - (rulesL G.kinds.length (G.prods.getD k pd0).right).length + smA L ((rulesL G.kinds.length (G.prods.getD k pd0).right).map Int.toNat):=by
       unfold lnN kcN rlN
       rw [List.length_map]
     have elf:lfN G k = (G.prods.getD k pd0).left.toNat:=rfl
     generalize G.prods.getD k pd0 = p at *
     obtain ⟨pl,prt,plv,pac⟩:=p
     simp only at q0 q1 q2 hpl hpr hpy eln elf hrr
     obtain ⟨l,rfl⟩:∃ l:Nat,pl = (l:Int):=⟨pl.toNat,by omega⟩
     rw [Int.toNat_natCast] at elf
     have hl':l < G.rules.length:=by have:=hpl.2; unfold Gm.nr at this; omega
     have hl'':(l:Int) < G.rules.length:=by omega
     obtain ⟨W2,hW2⟩:∃ W2,W2 = wr.alloc (.cells #[.int .i64 (l:Int),.slice rr prt.length rrc,.int .i64 plv,.int .i64 x3,.int .i64 x4,.string x5,.slice x6 n6 c6] 89):=⟨_,rfl⟩
     have hb2:Below wr.heap.size wr W2:=by rw [hW2]; exact (Below.refl _ _).alloc (Nat.le_refl _) _
     have hpb:W2.heap[wr.heap.size]? = some (.cells #[.int .i64 (l:Int),.slice rr prt.length rrc,.int .i64 plv,.int .i64 x3,.int .i64 x4,.string x5,.slice x6 n6 c6] 89):=by rw [hW2]; exact Go.Deep.blk_alloc_new _ _
     have hs22:=hb2.size
     have hpbl:wr.heap.size < W2.heap.size:=(Array.getElem?_eq_some_iff.1 hpb).1
     have hI2:=shi_below hI hszv hb2
     have hgr2:=gr_kept hgr (below_le hb2 (by omega))
     have c0:W2.cell? ⟨gb,0,none⟩ = some (.slice ka G.kinds.length kc):=by unfold World.cell?; rw [hgr2.box]; rfl
     have p1:W2.cell? ⟨wr.heap.size,1,none⟩ = some (.slice rr prt.length rrc):=by unfold World.cell?; rw [hpb]; rfl
     have p0:W2.cell? ⟨wr.heap.size,0,none⟩ = some (.int .i64 (l:Int)):=by unfold World.cell?; rw [hpb]; rfl
     have hrow2:=((unhide Hb).of_block (hI.bl.block _ (unhide Hb).lt)).of_block (hb2.block _ (by have:=(unhide Hb).lt; omega))
     have hbl2:=hrow2.lt
     have HS:Hid (∀ V,Below W2.heap.size W2 V → V.cell? ⟨wr.heap.size,1,none⟩ = some (.slice rr prt.length rrc) ∧ V.cell? ⟨wr.heap.size,0,none⟩ = some (.int .i64 (l:Int)) ∧ V.cell? ⟨bb,l,none⟩ = some (.int .i64 (L l))):=hide (fun V hV => ⟨(hV.cell (p:=⟨wr.heap.size,1,none⟩) hpbl).trans p1,(hV.cell (p:=⟨wr.heap.size,0,none⟩) hpbl).trans p0,(hrow2.of_block (hV.block _ hbl2)).cell hl'⟩)
     have HC:Hid (∀ V,Below W2.heap.size W2 V → Calls Tryz.prog 112 #[.pointer (some ⟨gb,0,none⟩),.slice rr prt.length rrc,.slice (some ⟨bb,0,none⟩) G.rules.length G.rules.length] V fun e w' => e = .returned (.int .i64 (lnN G L k)) ∧ Below W2.heap.size W2 w'):=hide (fun V hV => by
       have hsv:=hV.size
       refine (length_any gb G.kinds.length G.rules.length ka kc (by omega) (by omega) rr rrc prt hpr (fun x hx => by have:=hpy x hx; unfold Gm.nk Gm.nr at this; omega) bb L (unhide HL) V ((hV.cell (p:=⟨gb,0,none⟩) (by show gb < _; omega)).trans c0) (by omega) (nrow_big hsv (nrow_kept hV (nrow_big (by omega) (nrow_kept (below_le hb2 (by omega)) hrr)))) (hrow2.of_block (hV.block _ hbl2))).mono ?_
       rintro e w' ⟨rfl,hb'⟩
       exact ⟨by rw [eln],hV.trans (below_le hb' hsv)⟩)
     have HI2:=hide hI2
     have hmk:∀ V,Below W2.heap.size W2 V → V.cell? ⟨mb,k,none⟩ = some (.int .i64 (atZ ml k)):=fun V hV => by
       have h2:=(shi_below hI2 (by omega) hV).own
       rw [h2.cellAt k (by omega)]
       unfold vints atZ
       rw [List.getElem?_map,List.getD_eq_getElem?_getD,List.getElem?_eq_getElem (by rw [hI2.len]; exact hlt)]
       rfl
     have Hmk:=hide hmk
     have hs2z:w.heap.size ≤ W2.heap.size:=by omega
     clear hI hI2 hgr hgr2 hrr hpb hrow2 hmk p0 p1 c0 eln
     go_wp2_with fail
     rw [← hW2]
     clear hW2 hb2 q0 q1 q2 q3 q4 q5 q6
     generalize hpbe:wr.heap.size = pb at *
     have hS:Below W2.heap.size W2 W2:=Below.refl _ _
     go_cut [31] (fun v W => v = .bool (decide (¬ lnN G L k = L l)) ∧ Below W2.heap.size W2 W)
     case first =>
       go_region_held3 (fun V:World => V.cell? ⟨pb,1,none⟩ = some (.slice rr prt.length rrc) ∧ V.cell? ⟨pb,0,none⟩ = some (.int .i64 (l:Int)) ∧ V.cell? ⟨bb,l,none⟩ = some (.int .i64 (L l)))
         (first | exact unhide HS _ hS | exact unhide HS _ hS.drew | fail)
         (first
           | (go_at_call 112; refine (unhide HC _ (by first | exact hS | exact hS.drew)).mono ?_; rintro e W3 ⟨rfl,hS⟩)
           | fail)
       all_goals
         go_wp2_with fail
         go_meet
         exact ⟨by by_cases e:lnN G L k = L l <;> simp [e],hS⟩
     case rest =>
       obtain ⟨rfl,hbc⟩:=hcut
       have hI3:=shi_below (unhide HI2) hs2z hbc
       have hmk:=unhide Hmk _ hbc
       by_cases he:lnN G L k = L l
       · have hI4:=hide (shi_same hI3 (by rw [elf]; exact he))
         clear hI3 HC HS hmk Hmk HI2
         go_wp2
         go_roundw
         case rel => exact ⟨k + 1,ml,by go_num,by omega,unhide hI4⟩
         case measure => simp [intOf]; omega
       · have hI4:=hide (shi_mark hI3 hlt (by rw [elf]; exact he))
         have hfz:=hI3.own.frozenAt k
         clear hI3 HC HS Hmk HI2
         go_wp2
         go_roundw
         case rel => exact ⟨k + 1,_,by go_num,by omega,unhide hI4⟩
         case measure => simp [intOf]; omega
   · obtain rfl:k = G.prods.length:=by omega
     have hrl:∀ q,q < G.prods.length → (rlN G q).length ≤ 64:=fun q hq => by
       have h4:=rlN_len G q
       have h5:=hG.pr _ (mem_getP hq)
       omega
     have hown:=hI.own
     have hown':wr.ownsRow w.heap.size 3 1 (.slice (some ⟨mb,0,none⟩) G.prods.length G.prods.length) ml.length (vints ml):=by rw [hI.len]; exact hown
     have hmbb:w.heap.size ≤ mb:=(hown.lt mb rfl).1
     have HRo:=hide (rounds_any G hG ka pa ra qa kc pc rc qc gb ob ub M (.slice (some ⟨mb,0,none⟩) G.prods.length G.prods.length) ml hI.len (fun q hq => by
       rw [hI.at_ q hq]
       split
       · exact .inr (.inr (by decide))
       · exact .inl rfl) (fun q => by
       by_cases hq:q < G.prods.length
       · rw [hI.at_ q hq]; have:=hrl q hq; split <;> omega
       · have:atZ ml q = 0:=by unfold atZ; rw [List.getD_eq_getElem?_getD,List.getElem?_eq_none (by rw [hI.len]; omega)]; rfl
         omega) wr (by omega) (gr_kept (unhide Hg) (below_le hI.bl hM)) (own_base hown' hM))
     have Hel:Hid (∀ q,q < G.prods.length → decide (atZ ml q = (rlN G q).length) = decide (lnN G L q = L (lfN G q))):=hide (fun q hq => by
       rw [hI.at_ q hq]
       by_cases e:lnN G L q = L (lfN G q)
       · rw [if_neg (by rintro ⟨-,h⟩; exact h e)]; simp [e]
       · rw [if_pos ⟨hq,e⟩]
         simp [e])
     have Hbl:=hide hI.bl
     clear hI hown hown'
     go_wp2_with fail
     refine (unhide HRo).mono ?_
     rintro e w3 ⟨b3,n,c,rfl,hrow3,hc,hs,hbl3,hfr3⟩
     have Hend:Hid (ShortPost G L w (.returned (.slice (some ⟨b3,0,none⟩) G.rules.length G.rules.length)) w3):=hide ⟨b3,n,c,_,rfl,hrow3,hc,hs,unhide Hel,by omega,(unhide Hbl).trans (fr_below hfr3 hszv (fun k hk => by simp [Value.ownBlock] at hk; omega))⟩
     clear hrow3 hc hs hfr3
     go_wp2
     go_ret
     exact unhide Hend
end Go.Proofs.YtagohbpbgjelaaaGreatDoor

/- Plain mathematics: the code's productions of shortest rows are the document's, wherever a row is not too long. -/
namespace Go.Proofs.YtagohbpbgjelaaaGreatDoor
open Go.RowKit

theorem okP_iff {G:Gm} {f c:Nat → Int} {q:Nat}:okP G f c (G.prods.getD q pd0) = true ↔ (∀ x,x ∈ rlN G q → 0 ≤ c x) ∧ lenR G.nk f (G.prods.getD q pd0).right 0 = f (lfN G q):=by
 unfold okP
 rw [Bool.and_eq_true,wholeB_iff,decide_eq_true_eq]
 refine and_congr ?_ Iff.rfl
 constructor
 · intro h x hx
   obtain ⟨y,h1,h2,rfl⟩:=rlN_mem.1 hx
   exact of_decide_eq_true (h y h1 h2)
 · intro h y h1 h2
   exact decide_eq_true (h _ (rlN_mem.2 ⟨y,h1,h2,rfl⟩))
theorem sumL_mem {L:Nat → Int}:∀ (l:List Nat) (x:Nat),x ∈ l → 0 ≤ L x → L x ≤ sumL L l
 | [],x,h,_ => by cases h
 | y :: l, x, h, h0 => by
   have hs:=(sumL_ge L l).1
   rcases List.mem_cons.1 h with rfl | h
   · unfold sumL; rw [if_pos h0]; omega
   · have:=sumL_mem l x h h0
     unfold sumL
     split <;> omega
theorem lnN_fd {G:Gm} {f:Nat → Int} {q:Nat} (h:∀ x,x ∈ rlN G q → 0 ≤ f x):lnN G f q = kcN G q + sumL f (rlN G q):=by unfold lnN; rw [smA_fd _ h]
theorem okR_iff {rl:Nat → List Nat} {el:Nat → Bool} {c:Nat → Int} {q:Nat}:okR rl el c q = true ↔ el q = true ∧ ∀ x,x ∈ rl q → 0 ≤ c x:=by
 unfold okR
 rw [Bool.and_eq_true,List.all_eq_true]
 refine and_congr Iff.rfl ?_
 constructor
 · intro h x hx; exact of_decide_eq_true (h x hx)
 · intro h x hx; exact decide_eq_true (h x hx)
theorem chL_from (lf : Nat → Nat) : ∀ (l : List Nat) (c : Nat → Int) (r : Nat), 0 ≤ chL lf l c r → 0 ≤ c r ∨ ∃ q, q ∈ l ∧ lf q = r
 | [],_,_,h => .inl h
 | k :: l, c, r, h => by
   rcases chL_from lf l _ r h with h1 | ⟨q,h1,h2⟩
   · by_cases e:lf k = r
     · exact .inr ⟨k,by simp,e⟩
     · left
       split at h1
       · rwa [upZ_ne (fun h => e h.symm)] at h1
       · exact h1
   · exact .inr ⟨q,by simp [h1],h2⟩
section
variable {G:Gm} {f c c':Nat → Int} {el:Nat → Bool}
theorem st_ok (hc:∀ x,0 ≤ c x → 0 ≤ f x) (hc':∀ x,0 ≤ c' x → 0 ≤ f x) (ha:∀ r,f r ≤ 65536 → c r = c' r) {q:Nat} (hel:el q = decide (lnN G f q = f (lfN G q))) (hq:f (lfN G q) ≤ 65536):okR (rlN G) el c q = okP G f c' (G.prods.getD q pd0):=by
 rw [Bool.eq_iff_iff,okR_iff,okP_iff,hel,decide_eq_true_eq]
 have hk:=kcN_nn G q
 constructor
 · rintro ⟨h1,h2⟩
   have h3:∀ x,x ∈ rlN G q → 0 ≤ f x:=fun x hx => hc x (h2 x hx)
   have h4:=lnN_fd h3
   refine ⟨fun x hx => ?_,?_⟩
   · have:=sumL_mem (L:=f) _ x hx (h3 x hx)
     rw [← ha x (by omega)]
     exact h2 x hx
   · rw [lenR_q h3]; omega
 · rintro ⟨h1,h2⟩
   have h3:∀ x,x ∈ rlN G q → 0 ≤ f x:=fun x hx => hc' x (h1 x hx)
   have h4:=lnN_fd h3
   rw [lenR_q h3] at h2
   refine ⟨by omega,fun x hx => ?_⟩
   have:=sumL_mem (L:=f) _ x hx (h3 x hx)
   rw [ha x (by omega)]
   exact h1 x hx
theorem st_to (hc : ∀ x, 0 ≤ c x → 0 ≤ f x) (hc' : ∀ x, 0 ≤ c' x → 0 ≤ f x) (ha : ∀ r, f r ≤ 65536 → c r = c' r) (hel : ∀ q, q < G.prods.length → el q = decide (lnN G f q = f (lfN G q))) : ∀ k, k ≤ G.prods.length → ∀ r, f r ≤ 65536 → chL (lfN G) ((List.range k).filter (okR (rlN G) el c)) c r = chTo G f c' k r
 | 0,_,r,hr => ha r hr
 | k + 1, hk, r, hr => by
   have ih:=st_to hc hc' ha hel k (by omega) r hr
   rw [List.range_succ,List.filter_append,chL_append]
   generalize chL (lfN G) ((List.range k).filter (okR (rlN G) el c)) c = d at *
   have elf:(G.prods.getD k pd0).left.toNat = lfN G k:=rfl
   by_cases e:lfN G k = r
   · have hok:=st_ok hc hc' ha (hel k (by omega)) (by rw [e]; exact hr)
     conv => rhs; unfold chTo
     rw [elf,e,← ih,← hok]
     by_cases ho:okR (rlN G) el c k = true
     · rw [List.filter_cons,if_pos ho]
       show (if d (lfN G k) < 0 then upZ d (lfN G k) k else d) r = _
       rw [e]
       by_cases hd:d r < 0
       · rw [if_pos hd,if_pos ⟨hd,ho⟩,upZ_self]; unfold updI; rw [if_pos rfl]
       · rw [if_neg hd,if_neg (fun h => hd h.1)]; exact ih
     · rw [List.filter_cons,if_neg ho,if_neg (fun h => ho h.2)]
       exact ih
   · have h1:chTo G f c' (k + 1) r = chTo G f c' k r:=by
       conv => lhs; unfold chTo
       split
       · unfold updI; rw [if_neg (by rw [elf]; exact fun h => e h.symm)]
       · rfl
     rw [h1,← ih,List.filter_cons]
     split
     · show (if d (lfN G k) < 0 then upZ d (lfN G k) k else d) r = _
       split
       · rw [upZ_ne (fun h => e h.symm)]
       · rfl
     · rfl
theorem short_agree (hel : ∀ q, q < G.prods.length → el q = decide (lnN G f q = f (lfN G q))) : ∀ n, (∀ r, 0 ≤ stN (lfN G) (rlN G) el G.prods.length n r → 0 ≤ f r) ∧ (∀ r, 0 ≤ chS G f n r → 0 ≤ f r) ∧ ∀ r, f r ≤ 65536 → stN (lfN G) (rlN G) el G.prods.length n r = chS G f n r
 | 0 => ⟨fun r h => by have h:(0:Int) ≤ -1:=h; omega,fun r h => by have h:(0:Int) ≤ -1:=h; omega,fun r _ => rfl⟩
 | n + 1 => by
   obtain ⟨h1,h2,h3⟩:=short_agree hel n
   refine ⟨fun r hr => ?_,fun r hr => ?_,fun r hr => st_to h1 h2 h3 hel _ (Nat.le_refl _) r hr⟩
   · rcases chL_from _ _ _ r hr with h | ⟨q,hq,rfl⟩
     · exact h1 r h
     · obtain ⟨hq1,hq2⟩:=List.mem_filter.1 hq
       obtain ⟨ho1,ho2⟩:=okR_iff.1 hq2
       rw [hel q (List.mem_range.1 hq1),decide_eq_true_eq,lnN_fd (fun x hx => h1 x (ho2 x hx))] at ho1
       have:=kcN_nn G q
       have:=(sumL_ge f (rlN G q)).1
       omega
   · rcases chTo_what _ hr with ⟨h,-⟩ | ⟨i,hi,-,rfl,ho⟩
     · exact h2 r h
     · obtain ⟨ho1,ho2⟩:=okP_iff.1 ho
       rw [lenR_q (fun x hx => h2 x (ho1 x hx))] at ho2
       have:=kcN_nn G i
       have:=(sumL_ge f (rlN G i)).1
       show 0 ≤ f (lfN G i)
       omega
theorem stN_fix {n:Nat} (h:stT (lfN G) (rlN G) el G.prods.length (stN (lfN G) (rlN G) el G.prods.length n) = stN (lfN G) (rlN G) el G.prods.length n):∀ d,stN (lfN G) (rlN G) el G.prods.length (n + d) = stN (lfN G) (rlN G) el G.prods.length n
 | 0 => rfl
 | d + 1 => by
   show stT _ _ _ _ (stN (lfN G) (rlN G) el G.prods.length (n + d)) = _
   rw [stN_fix h d,h]
/-- What the code has chosen is what the document chooses, of rules whose rows are not too long. -/
theorem short_chosen {n:Nat} (hel:∀ q,q < G.prods.length → el q = decide (lnN G f q = f (lfN G q))) (hc:c = stN (lfN G) (rlN G) el G.prods.length n) (hs:stT (lfN G) (rlN G) el G.prods.length c = c) (hch:ChosenIs G f c') {r:Nat} (hr:f r ≤ 65536):c r = c' r:=by
 subst hc
 obtain ⟨m,rfl,hm⟩:=hch
 have h1:=(short_agree hel (n + m)).2.2 r hr
 rw [stN_fix hs m,Nat.add_comm n m,chS_fix hm n] at h1
 exact h1
end
end Go.Proofs.YtagohbpbgjelaaaGreatDoor

/- Plain mathematics: what a rule's shortest row is, by its production, also where it is empty. -/
namespace Go.Proofs.YtagohbpbgjelaaaGreatDoor
open Go.RowKit

theorem spl_write {G:Gm} {f c:Nat → Int} (hc:AgreeC G f c) {n r:Nat} (h:0 ≤ chS G f (n + 1) r) (hb:f r ≤ 65536) :
   ∃ i,i < G.prods.length ∧ c r = i ∧ (∀ y,y ∈ (G.prods.getD i pd0).right → HasC G f n y ∧ lnX G.nk f y ≤ 65536) ∧ splF G f c (n + 2) ((G.nk:Int) + r) = ((G.prods.getD i pd0).right.map (splF G f c (n + 1))).flatten:=by
 obtain ⟨i,hi,h1,h2,h3,h4⟩:=has_prod hc h
 have hge:0 ≤ lenR G.nk f (G.prods.getD i pd0).right 0:=by rw [h3]; exact chS_pos _ _ h
 have hs:=lenR_sum (nk:=G.nk) (f:=f) (G.prods.getD i pd0).right 0 (Int.le_refl _) (by omega) hge (by omega)
 have hy:∀ y,y ∈ (G.prods.getD i pd0).right → HasC G f n y ∧ lnX G.nk f y ≤ 65536:=fun y hy => ⟨h4 y hy,by
   by_cases hy1:(G.nk:Int) ≤ y
   · have:=lenR_each (nk:=G.nk) (f:=f) (G.prods.getD i pd0).right 0 (Int.le_refl _) (by omega) hge y hy hy1
     unfold lnX
     rw [if_pos hy1]
     omega
   · unfold lnX; rw [if_neg hy1]; omega⟩
 refine ⟨i,hi,h1,hy,?_⟩
 have hk:¬ ((G.nk:Int) + r < G.nk):=by omega
 have ex:((G.nk:Int) + r - G.nk).toNat = r:=by omega
 by_cases h0:f r = 0
 · rw [splF_zero hk (by rw [ex]; exact h0)]
   have hl:=flat_len (splF G f c (n + 1)) (lnX G.nk f) (G.prods.getD i pd0).right (fun y hm => splF_len hc n y (hy y hm).1 (hy y hm).2)
   symm
   apply List.eq_nil_of_length_eq_zero
   omega
 · rw [splF_step hk (by rw [ex]; exact h0),ex,h1,Int.toNat_natCast]
/-- A rule's row does not hang on the fuel. -/
theorem spl_row {G:Gm} {c:Nat → Int} (hch:ChosenIs G (lstF G) c) {n r:Nat} (h:0 ≤ chS G (lstF G) n r):splF G (lstF G) c (n + 1) ((G.nk:Int) + r) = rowOf G r:=by
 obtain ⟨rfl,hF⟩:=chF_is hch
 have hA:=agree_of hF
 have ex:((G.nk:Int) + r - G.nk).toNat = r:=by omega
 have h1:HasC G (lstF G) n ((G.nk:Int) + r):=.inr (by rw [ex]; exact h)
 have h2:HasC G (lstF G) (chN G) ((G.nk:Int) + r):=.inr (by
   rw [ex]
   show 0 ≤ chF G r
   rw [hA n r h]; exact h)
 show _ = splF G (lstF G) (chF G) (chN G + 1) ((G.nk:Int) + r)
 rcases Nat.le_total n (chN G) with hl | hl
 · exact (splF_fuel hA n _ h1 _ hl).symm
 · exact splF_fuel hA _ _ h2 _ hl
end Go.Proofs.YtagohbpbgjelaaaGreatDoor

/- Plain mathematics: a row that is written piece by piece, each rule's piece once. -/
namespace Go.Proofs.YtagohbpbgjelaaaGreatDoor
open Go.RowKit

/-- A symbol's row, if each rule has one. -/
def symR (nk:Nat) (ρ:Nat → List Int) (x:Int):List Int:=if x < nk then [x] else ρ (x - nk).toNat
/-- What is known of where rules' rows stand in the row so far. -/
def SpI (ρ:Nat → List Int) (R:List Int) (M:Nat → Option (Nat × Nat)):Prop:=∀ r a b,M r = some (a,b) → a ≤ b ∧ b ≤ R.length ∧ (R.take b).drop a = ρ r
theorem sp_more {ρ:Nat → List Int} {R S:List Int} {M:Nat → Option (Nat × Nat)} (h:SpI ρ R M):SpI ρ (R ++ S) M:=fun r a b hm => by
 obtain ⟨h1,h2,h3⟩:=h r a b hm
 exact ⟨h1,by rw [List.length_append]; omega,by rw [List.take_append_of_le_length h2]; exact h3⟩
def upM (M:Nat → Option (Nat × Nat)) (r:Nat) (p:Nat × Nat):Nat → Option (Nat × Nat):=fun s => if s = r then some p else M s
theorem sp_put {ρ:Nat → List Int} {R:List Int} {M:Nat → Option (Nat × Nat)} (h:SpI ρ R M) {r a:Nat} (ha:a ≤ R.length) (hr:R.drop a = ρ r):SpI ρ R (upM M r (a,R.length)):=fun s c d hm => by
 unfold upM at hm
 by_cases e:s = r
 · rw [if_pos e] at hm
   simp only [Option.some.injEq,Prod.mk.injEq] at hm
   obtain ⟨rfl,rfl⟩:=hm
   subst e
   exact ⟨ha,Nat.le_refl _,by rw [List.take_length]; exact hr⟩
 · rw [if_neg e] at hm; exact h s c d hm
/-- How many have a place. -/
def cntM (M:Nat → Option (Nat × Nat)):Nat → Nat
 | 0 => 0
 | k + 1 => cntM M k + if (M k).isSome then 1 else 0
theorem cntM_le (M:Nat → Option (Nat × Nat)):∀ k,cntM M k ≤ k
 | 0 => Nat.le_refl _
 | k + 1 => by unfold cntM; have:=cntM_le M k; split <;> omega
theorem cntM_out (M:Nat → Option (Nat × Nat)) (r:Nat) (p:Nat × Nat):∀ k,k ≤ r → cntM (upM M r p) k = cntM M k
 | 0,_ => rfl
 | k + 1, h => by
   unfold cntM
   rw [cntM_out M r p k (by omega)]
   have:upM M r p k = M k:=by unfold upM; rw [if_neg (by omega)]
   rw [this]
theorem cntM_up (M:Nat → Option (Nat × Nat)) (r:Nat) (p:Nat × Nat) (hr:M r = none):∀ k,r < k → cntM (upM M r p) k = cntM M k + 1
 | 0,h => by omega
 | k + 1, h => by
   unfold cntM
   by_cases e:k = r
   · subst e
     rw [cntM_out M k p k (Nat.le_refl _),hr]
     have:upM M k p k = some p:=by unfold upM; rw [if_pos rfl]
     rw [this]; simp
   · rw [cntM_up M r p hr k (by omega)]
     have:upM M r p k = M k:=by unfold upM; rw [if_neg e]
     rw [this]; omega
theorem cntM_none:∀ k,cntM (fun _ => none) k = 0
 | 0 => rfl
 | k + 1 => by unfold cntM; rw [cntM_none k]; rfl
/-- Rules' rows, by their productions: those that come at a stage are made of kinds and of those that came ahead. -/
structure RhoI (G:Gm) (ρ:Nat → List Int) (by_:Nat → Int) (st:Nat → Nat → Prop):Prop where
 z:∀ r,¬ st 0 r
 prod:∀ n r,st (n + 1) r → ∃ i:Nat,i < G.prods.length ∧ by_ r = i ∧ (∀ y,y ∈ (G.prods.getD i pd0).right → (G.nk:Int) ≤ y → st n (y - G.nk).toNat) ∧ ρ r = ((G.prods.getD i pd0).right.map (symR G.nk ρ)).flatten
/-- The pieces of a production's row, up to one. -/
def preR (nk:Nat) (ρ:Nat → List Int) (row:List Int) (k:Nat):List Int:=((row.take k).map (symR nk ρ)).flatten
theorem preR_succ {nk:Nat} {ρ:Nat → List Int} {row:List Int} {k:Nat} (hk:k < row.length):preR nk ρ row (k + 1) = preR nk ρ row k ++ symR nk ρ (row.getD k 0):=by
 unfold preR
 rw [take_snoc row k 0 hk,List.map_append,List.flatten_append]
 simp
theorem preR_le {nk:Nat} {ρ:Nat → List Int} {row:List Int}:∀ {k:Nat},k ≤ row.length → (preR nk ρ row k).length ≤ ((row.map (symR nk ρ)).flatten).length:=fun {k} _ => by
 unfold preR
 have h:row.map (symR nk ρ) = (row.take k).map (symR nk ρ) ++ (row.drop k).map (symR nk ρ):=by rw [← List.map_append,List.take_append_drop]
 rw [h,List.flatten_append,List.length_append]
 omega
theorem rho_spl {G : Gm} {c : Nat → Int} (hch : ChosenIs G (lstF G) c) : RhoI G (fun r => rowOf G r) c (fun n r => 0 ≤ chS G (lstF G) n r ∧ lstF G r ≤ 65536) := by
 obtain ⟨rfl,hF⟩:=chF_is hch
 have hA:=agree_of hF
 refine ⟨fun r h => ?_,fun n r ⟨h1,h2⟩ => ?_⟩
 · have h:(0:Int) ≤ -1:=h.1
   omega
 · obtain ⟨i,hi,hci,hy,hs⟩:=spl_write hA h1 h2
   refine ⟨i,hi,hci,fun y hym hk => ?_,?_⟩
   · obtain ⟨h3,h4⟩:=hy y hym
     rcases h3 with h3 | h3
     · omega
     · unfold lnX at h4
       rw [if_pos hk] at h4
       exact ⟨h3,h4⟩
   · rw [spl_row hch h1] at hs
     show rowOf G r = _
     rw [hs]
     congr 1
     refine List.map_congr_left fun y hym => ?_
     obtain ⟨h3,-⟩:=hy y hym
     unfold symR
     by_cases hk:y < G.nk
     · rw [if_pos hk,splF_kind hk]
     · rw [if_neg hk]
       rcases h3 with h3 | h3
       · exact absurd h3 hk
       · have e:((G.nk:Int) + (y - G.nk).toNat) = y:=by omega
         have h5:=spl_row hch h3
         rw [e] at h5
         exact h5
end Go.Proofs.YtagohbpbgjelaaaGreatDoor

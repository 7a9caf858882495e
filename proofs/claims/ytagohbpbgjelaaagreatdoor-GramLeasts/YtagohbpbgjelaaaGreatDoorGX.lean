/- With what rules begin: which kinds and which rules stand where they begin. -/
import Derived.Test.YtagohbpbgjelaaaGreatDoorGV
import Derived.Test.YtagohbpbgjelaaaGreatDoorGW
import Derived.Test.YtagohbpbgjelaaaGreatDoorB1
import Derived.Test.YtagohbpbgjelaaaGreatDoorGQ
import Derived.Test.YtagohbpbgjelaaaGreatDoorIA
namespace Go.Proofs.YtagohbpbgjelaaaGreatDoor
open Go.RowKit

abbrev rhs (G:Gm) (q:Nat):List Int:=(G.prods.getD q pd0).right
abbrev lhs (G:Gm) (q:Nat):Nat:=(G.prods.getD q pd0).left.toNat
def WayP (G:Gm) (q i r y:Nat):Prop:=q < G.prods.length ∧ lhs G q = r ∧ i < (rhs G q).length ∧ emptyB G.nk (nullF G) ((rhs G q).take i) = true ∧ (G.nk:Int) ≤ (rhs G q).getD i 0 ∧ ((rhs G q).getD i 0 - G.nk).toNat = y
def KndP (G:Gm) (q i r:Nat) (m:Int):Prop:=q < G.prods.length ∧ lhs G q = r ∧ i < (rhs G q).length ∧ emptyB G.nk (nullF G) ((rhs G q).take i) = true ∧ (rhs G q).getD i 0 < (G.nk:Int) ∧ (rhs G q).getD i 0 = m
def Upto (k j q i:Nat):Prop:=q < k ∨ q = k ∧ i < j
def upW (W:Nat → List Nat) (r y:Nat):Nat → List Nat:=fun s => if s = r then W r ++ [y] else W s
theorem upW_mem (W:Nat → List Nat) (r y s z:Nat):z ∈ upW W r y s ↔ z ∈ W s ∨ s = r ∧ z = y:=by
 unfold upW
 by_cases e:s = r
 · subst e; simp
 · simp [e]
theorem upW_len (W:Nat → List Nat) (r y s:Nat):(upW W r y s).length ≤ (W s).length + 1:=by
 unfold upW
 by_cases e:s = r
 · subst e; simp
 · simp [e]
/-- What stands in sets and ways, up to a symbol of a production. -/
structure FbI (G:Gm) (k j:Nat) (C:Nat → Int → Bool) (W:Nat → List Nat):Prop where
 c:∀ r m,C r m = true ↔ ∃ q i,Upto k j q i ∧ KndP G q i r m
 w:∀ r y,y ∈ W r ↔ ∃ q i,Upto k j q i ∧ WayP G q i r y
 l:∀ r,(W r).length ≤ 64 * k + j
theorem upto_succ {k j q i:Nat}:Upto k (j + 1) q i ↔ Upto k j q i ∨ q = k ∧ i = j:=by unfold Upto; omega
theorem fb_start (G:Gm):FbI G 0 0 (fun _ _ => false) (fun _ => []) :=
 ⟨fun r m => ⟨fun h => (by cases h),fun ⟨q,i,h,_⟩ => (by unfold Upto at h; omega)⟩,fun r y => ⟨fun h => (by cases h),fun ⟨q,i,h,_⟩ => (by unfold Upto at h; omega)⟩,fun r => by simp⟩
theorem fb_kind {G : Gm} {k j : Nat} {C : Nat → Int → Bool} {W : Nat → List Nat} (h : FbI G k j C W) (hk : k < G.prods.length) (hj : j < (rhs G k).length) (he : emptyB G.nk (nullF G) ((rhs G k).take j) = true) (hx : (rhs G k).getD j 0 < (G.nk : Int)) : FbI G k (j + 1) (upC C (lhs G k) (addF (C (lhs G k)) ((rhs G k).getD j 0))) W := by
 refine ⟨fun r m => ?_,fun r y => ?_,fun r => by have:=h.l r; omega⟩
 · have key:upC C (lhs G k) (addF (C (lhs G k)) ((rhs G k).getD j 0)) r m = true ↔ C r m = true ∨ KndP G k j r m:=by
     by_cases e:r = lhs G k
     · subst e
       rw [upC_self]
       unfold addF
       by_cases e2:m = (rhs G k).getD j 0
       · rw [if_pos e2]; exact ⟨fun _ => .inr ⟨hk,rfl,hj,he,hx,e2.symm⟩,fun _ => rfl⟩
       · rw [if_neg e2]; exact ⟨.inl,fun h1 => h1.elim id (fun h2 => absurd h2.2.2.2.2.2.symm e2)⟩
     · rw [upC_ne e]; exact ⟨.inl,fun h1 => h1.elim id (fun h2 => absurd h2.2.1.symm e)⟩
   rw [key,h.c r m]
   constructor
   · rintro (⟨q,i,h1,h2⟩ | h2)
     · exact ⟨q,i,upto_succ.2 (.inl h1),h2⟩
     · exact ⟨k,j,upto_succ.2 (.inr ⟨rfl,rfl⟩),h2⟩
   · rintro ⟨q,i,h1,h2⟩
     rcases upto_succ.1 h1 with h1 | ⟨rfl,rfl⟩
     · exact .inl ⟨q,i,h1,h2⟩
     · exact .inr h2
 · rw [h.w r y]
   constructor
   · rintro ⟨q,i,h1,h2⟩; exact ⟨q,i,upto_succ.2 (.inl h1),h2⟩
   · rintro ⟨q,i,h1,h2⟩
     rcases upto_succ.1 h1 with h1 | ⟨rfl,rfl⟩
     · exact ⟨q,i,h1,h2⟩
     · have:=h2.2.2.2.2.1; omega
theorem fb_rule {G:Gm} {k j:Nat} {C:Nat → Int → Bool} {W:Nat → List Nat} (h:FbI G k j C W) (hk:k < G.prods.length) (hj:j < (rhs G k).length) (he:emptyB G.nk (nullF G) ((rhs G k).take j) = true) (hx:(G.nk:Int) ≤ (rhs G k).getD j 0):FbI G k (j + 1) C (upW W (lhs G k) ((rhs G k).getD j 0 - G.nk).toNat):=by
 refine ⟨fun r m => ?_,fun r y => ?_,fun r => by have:=h.l r; have:=upW_len W (lhs G k) ((rhs G k).getD j 0 - G.nk).toNat r; omega⟩
 · rw [h.c r m]
   constructor
   · rintro ⟨q,i,h1,h2⟩; exact ⟨q,i,upto_succ.2 (.inl h1),h2⟩
   · rintro ⟨q,i,h1,h2⟩
     rcases upto_succ.1 h1 with h1 | ⟨rfl,rfl⟩
     · exact ⟨q,i,h1,h2⟩
     · have:=h2.2.2.2.2.1; omega
 · rw [upW_mem,h.w r y]
   constructor
   · rintro (⟨q,i,h1,h2⟩ | ⟨rfl,rfl⟩)
     · exact ⟨q,i,upto_succ.2 (.inl h1),h2⟩
     · exact ⟨k,j,upto_succ.2 (.inr ⟨rfl,rfl⟩),hk,rfl,hj,he,hx,rfl⟩
   · rintro ⟨q,i,h1,h2⟩
     rcases upto_succ.1 h1 with h1 | ⟨rfl,rfl⟩
     · exact .inl ⟨q,i,h1,h2⟩
     · exact .inr ⟨h2.2.1.symm,h2.2.2.2.2.2.symm⟩
/-- The rest of a production has nothing to say. -/
theorem fb_skip {G : Gm} {k j : Nat} {C : Nat → Int → Bool} {W : Nat → List Nat} (h : FbI G k j C W) (hj : j ≤ 64) (hs : ∀ i, j ≤ i → i < (rhs G k).length → emptyB G.nk (nullF G) ((rhs G k).take i) = false) : FbI G (k + 1) 0 C W := by
 have key:∀ q i,(emptyB G.nk (nullF G) ((rhs G q).take i) = true ∧ i < (rhs G q).length) → (Upto (k + 1) 0 q i ↔ Upto k j q i):=fun q i ⟨he,hi⟩ => by
   unfold Upto
   constructor
   · rintro (h1 | h1)
     · by_cases e:q = k
       · subst e
         by_cases hij:i < j
         · exact .inr ⟨rfl,hij⟩
         · have:=hs i (by omega) hi; rw [he] at this; cases this
       · exact .inl (by omega)
     · omega
   · omega
 refine ⟨fun r m => ?_,fun r y => ?_,fun r => by have:=h.l r; omega⟩
 · rw [h.c r m]
   constructor
   · rintro ⟨q,i,h1,h2⟩; exact ⟨q,i,(key q i ⟨h2.2.2.2.1,h2.2.2.1⟩).2 h1,h2⟩
   · rintro ⟨q,i,h1,h2⟩; exact ⟨q,i,(key q i ⟨h2.2.2.2.1,h2.2.2.1⟩).1 h1,h2⟩
 · rw [h.w r y]
   constructor
   · rintro ⟨q,i,h1,h2⟩; exact ⟨q,i,(key q i ⟨h2.2.2.2.1,h2.2.2.1⟩).2 h1,h2⟩
   · rintro ⟨q,i,h1,h2⟩; exact ⟨q,i,(key q i ⟨h2.2.2.2.1,h2.2.2.1⟩).1 h1,h2⟩
theorem empty_stop {G:Gm} {row:List Int} {j i:Nat} (hj:j < row.length) (hi:j < i) (hx:row.getD j 0 < (G.nk:Int) ∨ nullF G (row.getD j 0 - G.nk).toNat = false):emptyB G.nk (nullF G) (row.take i) = false:=by
 cases h:emptyB G.nk (nullF G) (row.take i) with
 | false => rfl
 | true =>
   have hm:row.getD j 0 ∈ row.take i:=by
     rw [List.getD_eq_getElem?_getD,List.getElem?_eq_getElem hj]
     show row[j] ∈ _
     exact List.mem_take_iff_getElem.2 ⟨j,by omega,rfl⟩
   obtain ⟨h1,h2⟩:=emptyB_iff.1 h _ hm
   rcases hx with hx | hx
   · omega
   · rw [hx] at h2; cases h2
theorem empty_next {G:Gm} {row:List Int} {j:Nat} (hj:j < row.length) (he:emptyB G.nk (nullF G) (row.take j) = true) (hx:(G.nk:Int) ≤ row.getD j 0) (hn:nullF G (row.getD j 0 - G.nk).toNat = true):emptyB G.nk (nullF G) (row.take (j + 1)) = true:=by
 refine emptyB_iff.2 fun x hxm => ?_
 rw [take_snoc row j 0 hj] at hxm
 rcases List.mem_append.1 hxm with h1 | h1
 · exact emptyB_iff.1 he x h1
 · simp only [List.mem_singleton] at h1
   rw [h1]; exact ⟨hx,hn⟩
/-- The kinds of all to which a rule leads are those with which it begins. -/
theorem fb_end {G:Gm} (hG:GOk G) {C:Nat → Int → Bool} {W:Nat → List Nat} (h:FbI G G.prods.length 0 C W) (r:Nat) (m:Int):Uw W C r m ↔ 0 ≤ m ∧ Fst G r m.toNat:=by
 have up:∀ q i,q < G.prods.length → Upto G.prods.length 0 q i:=fun q i hq => .inl hq
 constructor
 · rintro ⟨y,h1,h2⟩
   induction h1 with
   | refl x =>
     obtain ⟨q,i,-,hq,rfl,hi,he,hx,rfl⟩:=(h.c _ _).1 h2
     have h3:(1:Int) ≤ (rhs G q).getD i 0:=(hG.py _ (mem_getP hq) _ (mem_getD hi)).1
     exact ⟨by omega,.kind _ (mem_getP hq) i hi he hx⟩
   | step x y z hy _ ih =>
     obtain ⟨q,i,-,hq,rfl,hi,he,hx,rfl⟩:=(h.w _ _).1 hy
     obtain ⟨h3,h4⟩:=ih h2
     exact ⟨h3,.rule _ (mem_getP hq) i hi he hx _ h4⟩
 · rintro ⟨h0,h1⟩
   obtain ⟨k,rfl⟩:=Int.eq_ofNat_of_zero_le h0
   rw [Int.toNat_natCast] at h1
   clear h0
   induction h1 with
   | kind p hp i hi he hx =>
     obtain ⟨q,hq,rfl⟩:=List.getElem_of_mem hp
     have e:G.prods[q] = G.prods.getD q pd0:=by rw [List.getD_eq_getElem?_getD,List.getElem?_eq_getElem hq]; rfl
     rw [e] at hi he hx ⊢
     have h3:(1:Int) ≤ (rhs G q).getD i 0:=(hG.py _ (mem_getP hq) _ (mem_getD hi)).1
     exact ⟨_,.refl _,(h.c _ _).2 ⟨q,i,up q i hq,hq,rfl,hi,he,hx,by show (rhs G q).getD i 0 = (((rhs G q).getD i 0).toNat:Int); omega⟩⟩
   | rule p hp i hi he hx k _ ih =>
     obtain ⟨q,hq,rfl⟩:=List.getElem_of_mem hp
     have e:G.prods[q] = G.prods.getD q pd0:=by rw [List.getD_eq_getElem?_getD,List.getElem?_eq_getElem hq]; rfl
     rw [e] at hi he hx ih ⊢
     obtain ⟨y,h3,h4⟩:=ih
     exact ⟨y,.step _ _ _ ((h.w _ _).2 ⟨q,i,up q i hq,hq,rfl,hi,he,hx,rfl⟩) h3,h4⟩
end Go.Proofs.YtagohbpbgjelaaaGreatDoor

/- The code's reached. -/
namespace Go.Proofs.YtagohbpbgjelaaaGreatDoor
open Go.RowKit

/-- While what is reached is gone through. -/
structure RhI (G:Gm) (ok:Nat → Bool) (okP:Pd → Bool) (w:World) (bb lb base:Nat) (fs:List Nat) (a m g cap:Nat) (W:World):Prop where
 mrk:W.rowIs bb 4 G.rules.length (fun r => .bool (decide (r ∈ fs.take m)))
 lf:LeftAt W lb G.rules.length (fun i => decide (i < G.rules.length) && !decide (i ∈ fs))
 fd:W.ownsRow base 3 1 (.slice (some ⟨g,0,none⟩) (castL fs).length cap) (castL fs).length (vints (castL fs))
 rc:RcI G ok okP fs a
 bl:Below w.heap.size w W
 le:base ≤ W.heap.size
set_option maxHeartbeats 1000000 in
set_option maxRecDepth 100000 in
theorem reached_any (G : Gm) (hG : GOk G) (ka pa ra qa : Option Addr) (kc pc rc qc gb ob ub : Nat) (M : Nat) (F : Nat) (cap : Array Value) (ok : Nat → Bool) (okP : Pd → Bool) (hok : ∀ q, q < G.prods.length → ok q = okP (G.prods.getD q pd0)) (hcf : ∀ args W, Sem.run Tryz.prog (callFunc F args) W = .ok (.enter F args) W) (w : World) (hM : M ≤ w.heap.size) (hg : GrAt M w G ka kc pa pc ra rc qa qc gb ob ub)
   (hF:∀ W q,q < G.prods.length → Below w.heap.size w W → Calls Tryz.prog F (#[.int .i64 (q:Nat)] ++ cap) W fun e W' => e = .returned (.bool (ok q)) ∧ Below W.heap.size W W') :
   Calls Tryz.prog 32 #[.pointer (some ⟨gb,0,none⟩),.func (.func F) #[] cap] w fun e w' => ∃ b:Nat,e = .returned (.slice (some ⟨b,0,none⟩) G.rules.length G.rules.length) ∧ w'.rowIs b 4 G.rules.length (fun r => .bool (rchF G okP r)) ∧ w.heap.size ≤ b ∧ Below w.heap.size w w':=by
 obtain ⟨i3,hi3,hz30,hz31,hz32⟩:=info_parts info3
 have hr2:=hG.r2
 unfold Gm.nr at hr2
 have hs0:=hG.s0; have hs1:=hG.s1
 unfold Gm.nr at hs1
 obtain ⟨st,hst⟩:∃ st:Nat,G.start = st:=⟨G.start.toNat,by omega⟩
 have c2:w.cell? ⟨gb,2,none⟩ = some (.slice ra G.rules.length rc):=by unfold World.cell?; rw [hg.box]; rfl
 have c4:w.cell? ⟨gb,4,none⟩ = some (.int .i64 (st:Int)):=by unfold World.cell?; rw [hg.box,← hst]; rfl
 have hgl:gb < w.heap.size:=by have:=hg.lt; omega
 have hmk:=fun w => run_make_row' (P:=Tryz.prog) 28 4 (.bool false) 1 Tryz.underlying28 info4 rfl .i64 .i64 G.rules.length (by omega) (by omega) w
 have hrs:=rc_start hG ok okP
 have est:G.start.toNat = st:=by omega
 rw [est] at hrs
 have Hg:=hide hg; have HF:=hide hF; have Hrs:=hide hrs; have Hok:=hide hok
 clear hg hF hrs hok
 go_enter Tryz.func32,Tryz.ntmps32
 go_wp2_with fail
 have hz1:=World.rowIs_made w (.bool false) G.rules.length 4
 have hb1:Below w.heap.size w (w.alloc (Obj.cells (madeCells #[Value.bool false] G.rules.length) 4)):=(Below.refl _ _).alloc (Nat.le_refl _) _
 generalize hw1:w.alloc (Obj.cells (madeCells #[Value.bool false] G.rules.length) 4) = w1 at *
 have hsz1:w1.heap.size = w.heap.size + 1:=by rw [← hw1]; simp
 clear hw1
 refine (allLeft_any gb G.rules.length ra rc hr2 w1 (by omega) ((hb1.cell (by simpa using hgl)).trans c2)).mono ?_
 rintro e w2 ⟨lb,rfl,hlf2,hlb1,hlb2,hb2⟩
 have hs2:=hb2.size
 have hb12:=hb1.trans (below_le hb2 (by omega))
 have hz2:=hz1.of_block (hb2.block w.heap.size (by omega))
 have c4':=(hb12.cell (p:=⟨gb,4,none⟩) (by simpa using hgl)).trans c4
 have HT:=hide (take_any lb G.rules.length st _ (by omega) w2 hlf2)
 clear hlf2 hz1 c2 c4
 have Hb12:=hide hb12; have Hz2:=hide hz2
 clear hb12 hz2 hb1 hb2
 go_wp2_with fail
 refine (unhide HT).mono ?_
 rintro e w3 ⟨rfl,hlf3,hf3⟩
 have hs3:w2.heap.size ≤ w3.heap.size:=hf3.1
 have hb3:Below w.heap.size w w3:=(unhide Hb12).trans (fr_below hf3 (by omega) (fun k hk => by omega))
 have hz3:=(unhide Hz2).of_block (hf3.2.1 w.heap.size (by omega) (by omega))
 have c4'':=(hb3.cell (p:=⟨gb,4,none⟩) (by simpa using hgl)).trans ((unhide Hb12).cell (p:=⟨gb,4,none⟩) (by simpa using hgl) ▸ c4')
 have HR0:Hid (RhI G ok okP w w.heap.size lb w3.heap.size [st] 0 0 w3.heap.size 1 (w3.alloc (.cells #[.int .i64 (st:Int)] 3))):=hide (by
   refine ⟨?_,?_,?_,unhide Hrs,hb3.alloc hb3.size _,by simp⟩
   · refine ((hz3.of_block (w':=w3.alloc _) ?_)).congr (fun r _ => by simp)
     exact ((Below.refl w3.heap.size w3).alloc (Nat.le_refl _) _).block _ (by omega)
   · refine left_blk (W:=w3) ?_ (((Below.refl w3.heap.size w3).alloc (Nat.le_refl _) _).block _ (by omega))
     obtain ⟨D,h1,h2⟩:=hlf3
     exact ⟨D,h1,fun i => by rw [h2 i]; by_cases e:i = st <;> simp [e]⟩
   · have:=World.ownsRow_lit (base:=w3.heap.size) (e:=3) (size:=1) w3 #[.int .i64 (st:Int)] 1 (Nat.le_refl _) (by unfold maxLen; omega) rfl
     simpa [castL,vints] using this)
 clear hlf3 hf3 hz3 hb3 HT Hb12 Hz2
 have hlb3:lb < w3.heap.size:=by omega
 go_wp2
 go_loopw [7,8] (fun u x W => ∃ (fs:List Nat) (a g cp:Nat),u = .slice (some ⟨g,0,none⟩) (castL fs).length cp ∧ x = .int .i64 a ∧ RhI G ok okP w w.heap.size lb w3.heap.size fs a a g cp W) (fun _ x _ => G.rules.length - (intOf x).toNat)
 case atStart => exact ⟨[st],0,w3.heap.size,1,rfl,rfl,unhide HR0⟩
 case round =>
   clear HR0 c4'' c4'
   obtain ⟨fs,a,g,cp,rfl,rfl,hR⟩:=hrel
   have hlen:=rc_len hR.rc
   have hcl:=castL_len fs
   by_cases hlt:a < fs.length
   · have hlt' : (a : Int) < (castL fs).length := by omega
     obtain ⟨_,_,he,hgl2,hca,hcf2⟩:=own_at hR.fd (i:=a) (by omega)
     cases he
     rw [castL_get hlt] at hca
     have hrm:fs.getD a 0 ∈ fs:=by rw [List.getD_eq_getElem?_getD,List.getElem?_eq_getElem hlt]; exact List.getElem_mem hlt
     have hrl:=hR.rc.lt _ hrm
     have hrl':((fs.getD a 0:Nat):Int) < G.rules.length:=by omega
     have hmc:=hR.mrk.cell hrl
     have hmf:=hR.mrk.frozen (fs.getD a 0)
     have hset:Fr (· = w.heap.size) wr (wr.setCell ⟨w.heap.size,fs.getD a 0,none⟩ (.bool true)):=fr_set (fr_refl _ _) (by rfl) _
     have hR1:RhI G ok okP w w.heap.size lb w3.heap.size fs a (a + 1) g cp (wr.setCell ⟨w.heap.size,fs.getD a 0,none⟩ (.bool true)):=by
       have hg3:=(hR.fd.lt g rfl).1
       have hle:=hR.le
       refine ⟨(hR.mrk.set (fs.getD a 0) _).congr (fun r _ => ?_),left_blk hR.lf (hset.2.1 lb (by omega) (by omega)),own_blk hR.fd (fun k hk => hset.2.1 k (hR.fd.lt k hk).2 (by have:=(hR.fd.lt k hk).1; omega)),hR.rc,hR.bl.trans (fr_below hset hR.bl.size (fun k hk => by omega)),by have:=hset.1; omega⟩
       have e:fs.take (a + 1) = fs.take a ++ [fs.getD a 0]:=by rw [List.take_add_one,List.getD_eq_getElem?_getD,List.getElem?_eq_getElem hlt]; rfl
       rw [e]
       by_cases e2:r = fs.getD a 0
       · subst e2; simp
       · rw [if_neg e2]; congr 1; rw [decide_eq_decide]; simp only [List.mem_append,List.mem_singleton]; exact ⟨Or.inl,fun h => h.resolve_right e2⟩
     have HN:Hid _:=hide (next_any G hG ka pa ra qa kc pc rc qc gb ob ub M F cap ok hcf (fs.getD a 0) hrl (wr.setCell ⟨w.heap.size,fs.getD a 0,none⟩ (.bool true)) (by have:=hR1.bl.size; omega) (gr_kept (unhide Hg) (below_le hR1.bl hM)) (fun W q hq hb => unhide HF W q hq (hR1.bl.trans (below_le hb hR1.bl.size))))
     have hrch:=hR1.rc.snd _ hrm
     have Hnx:=hide (fun y hy => rc_reach (unhide Hok) hG hrch (y:=y) hy)
     have hgl3:g < (wr.setCell ⟨w.heap.size,fs.getD a 0,none⟩ (.bool true)).heap.size:=(hR1.fd.lt g rfl).2
     have HR1:=hide hR1
     have hgb3:w3.heap.size ≤ g:=(hR.fd.lt g rfl).1
     have hrd:=hide (show (wr.setCell ⟨w.heap.size,fs.getD a 0,none⟩ (.bool true)).cell? ⟨g,a,none⟩ = some (.int .i64 (fs.getD a 0:Nat)) from (World.cell?_of_block (hset.2.1 g hgl2 (by omega))).trans hca)
     clear hR hR1 hset hrch
     generalize hrr:fs.getD a 0 = rr at *
     go_wp2_with fail
     generalize wr.setCell ⟨w.heap.size,rr,none⟩ (.bool true) = W1 at *
     refine (unhide HN).mono ?_
     rintro e W5 ⟨v5,rfl,how5,hb5⟩
     obtain ⟨va,vc,rfl⟩:=own_form how5
     have hs5:=hb5.size
     have hR1:=unhide HR1
     have hs1w:=hR1.le
     have hl1:=left_lt hR1.lf
     have hm1:=hR1.mrk.lt
     have hR5:RhI G ok okP w w.heap.size lb w3.heap.size fs a (a + 1) g cp W5:=⟨hR1.mrk.of_block (hb5.block _ hm1),left_blk hR1.lf (hb5.block _ hl1),own_blk hR1.fd (fun k hk => hb5.block k (hR1.fd.lt k hk).2),hR1.rc,hR1.bl.trans (below_le hb5 hR1.bl.size),by omega⟩
     have hln:(nxtL G ok (ownN G rr)).length ≤ 262144:=by
       have h1:=nxtL_len G hG ok (ownN G rr) (fun q hq => ownN_mem hq)
       have h2:=ownN_len G rr
       have h3:=hG.ps
       omega
     have HR5:=hide hR5; have How5:=hide how5
     clear hR5 hR1 how5 hb5 HR1 HN hca hcf2 hmc hmf hrd
     generalize hL:nxtL G ok (ownN G rr) = L at *
     go_wp2
     go_loopw [7,53] (fun u x W => ∃ (fs':List Nat) (j g' cp':Nat),u = .slice (some ⟨g',0,none⟩) (castL fs').length cp' ∧ x = .int .i64 j ∧ j ≤ L.length ∧ RhI G ok okP w w.heap.size lb w3.heap.size fs' a (a + 1) g' cp' W ∧ (∃ t,fs' = fs ++ t) ∧ (∀ i,i < j → (L.getD i 0).toNat ∈ fs') ∧ W.ownsRow W1.heap.size 3 1 (.slice va L.length vc) L.length (vints L) ∧ (Value.slice va L.length vc).ownBlock ≠ some g') (fun _ x _ => L.length - (intOf x).toNat)
     case atStart => exact ⟨fs,0,g,cp,by rw [hcl],rfl,Nat.zero_le _,unhide HR5,⟨[],by simp⟩,fun i hi => by omega,unhide How5,fun e => by have:=((unhide How5).lt g e).1; omega⟩
     case round =>
       clear HR5 How5
       obtain ⟨fs',j,g',cp',rfl,rfl,hj,hR,hpre,hin,hown,hne⟩:=hrel
       by_cases hjl:j < L.length
       · have hjl':(j:Int) < L.length:=by omega
         obtain ⟨_,_,he,hglL,hcL,-⟩:=own_at hown hjl
         cases he
         have hym:L.getD j 0 ∈ L:=by rw [List.getD_eq_getElem?_getD,List.getElem?_eq_getElem hjl]; exact List.getElem_mem hjl
         obtain ⟨hyr,hy0,hyl⟩:=unhide Hnx _ hym
         obtain ⟨y,hy⟩:∃ y:Nat,L.getD j 0 = y:=⟨(L.getD j 0).toNat,by omega⟩
         have hin':∀ F:List Nat,(∃ t,F = fs' ++ t) → y ∈ F → ∀ i,i < j + 1 → (L.getD i 0).toNat ∈ F:=fun F ⟨t,ht⟩ hyF i hi => by
           by_cases e:i = j
           · subst e; rw [hy]; simpa using hyF
           · rw [ht]; exact List.mem_append_left _ (hin i (by omega))
         rw [hy] at hcL hyr hyl
         simp only [Int.toNat_natCast] at hyr hyl
         have HT:=hide (take_any lb G.rules.length y _ (by omega) wr hR.lf)
         have hfl:=rc_len hR.rc
         have hcl':=hide (castL_len fs')
         have HR:=hide hR; have Hpre:=hide hpre; have Hin:=hide hin'; have Hown:=hide hown
         clear hR hpre hin hin' hown
         go_wp2_with fail
         refine (unhide HT).mono ?_
         rintro e w6 ⟨rfl,hlf6,hf6⟩
         have hR:=unhide HR
         have hgg:=hR.fd.lt g' rfl
         have hmm:=hR.mrk.lt
         have hs6:wr.heap.size ≤ w6.heap.size:=hf6.1
         have hmk6:=hR.mrk.of_block (hf6.2.1 _ hmm (by omega))
         have hfd6:=own_blk hR.fd (fun k hk => hf6.2.1 k (hR.fd.lt k hk).2 (by have:=(hR.fd.lt k hk).1; omega))
         have hb6:=hR.bl.trans (fr_below hf6 hR.bl.size (fun k hk => by omega))
         have ho6:=own_blk (unhide Hown) (fun k hk => hf6.2.1 k ((unhide Hown).lt k hk).2 (by have:=((unhide Hown).lt k hk).1; omega))
         have hle:=hR.le
         by_cases hyf:y ∈ fs'
         · have e1:(decide (y < G.rules.length) && !decide (y ∈ fs')) = false:=by simp [hyf]
           rw [e1]
           have HR6:Hid (RhI G ok okP w w.heap.size lb w3.heap.size fs' a (a + 1) g' cp' w6):=hide (by
             refine ⟨hmk6,?_,hfd6,hR.rc,hb6,by omega⟩
             obtain ⟨D,h1,h2⟩:=hlf6
             exact ⟨D,h1,fun i => by rw [h2 i]; by_cases e:i = y <;> simp [e,hyf]⟩)
           have Ho6:=hide ho6
           clear hlf6 hf6 hR hmk6 hfd6 hb6 ho6 HR
           go_wp2
           go_roundw
           case rel => exact ⟨fs',j + 1,g',cp',by rw [unhide hcl'],by go_num,by omega,unhide HR6,unhide Hpre,unhide Hin fs' ⟨[],by simp⟩ hyf,unhide Ho6,hne⟩
           case measure => simp [intOf]; omega
         · have e1:(decide (y < G.rules.length) && !decide (y ∈ fs')) = true:=by simp [hyf,hyl]
           rw [e1]
           have HA:=hide (And.intro hmk6 (And.intro hlf6 (And.intro hb6 (And.intro ho6 hR.rc))))
           have Hfd6:=hide hfd6
           clear hlf6 hf6 hR hmk6 hfd6 hb6 ho6 HR
           have hcl2:=unhide hcl'
           rw [hcl2] at Hfd6
           go_wp2_with (at_builtin; refine wpList_append_lies _ rfl _ _ 27 rfl w3.heap.size 3 i3 (.int .i64 0) 1 8 Tryz.underlying27 hi3 hz30 hz31 hz32 rfl (by decide) _ _ _ rfl ((unhide Hfd6).alloc _) ⟨w6.heap.size,0,none⟩ 1 1 [.int .i64 (y:Int)] rfl rfl (new1 _ _ _) ?zc2 (by decide) ?zc3 ?zc4 ?zc5 (w6.heap.size + 1) (by simp) ?_)
           case zc2 => intro u hu; simp at hu; rcases hu with rfl; rfl
           case zc3 => unfold maxLen; omega
           case zc4 => omega
           case zc5 => simp; omega
           intro g7 cap7 W7 hown7 hgrow hg7 hl7
           obtain ⟨hmk6,hlf6,hb6,ho6,hrc⟩:=unhide HA
           have hal:Below w6.heap.size w6 (w6.alloc (.cells #[.int .i64 (y:Int)] 3)):=(Below.refl _ _).alloc (Nat.le_refl _) _
           have hkp:∀ k,k < w6.heap.size → k ≠ g' → W7.heap[k]? = w6.heap[k]?:=fun k hk hne' => (hgrow.block k (by have:=hal.size; omega) (fun e => hne' (by simpa [Value.ownBlock,eq_comm] using e))).trans (hal.block k hk)
           have hs7:w6.heap.size ≤ W7.heap.size:=Nat.le_trans hal.size hgrow.size
           have HR7:Hid (RhI G ok okP w w.heap.size lb w3.heap.size (fs' ++ [y]) a (a + 1) g7 cap7 W7):=hide (by
             refine ⟨(hmk6.of_block (hkp _ (by omega) (by omega))).congr (fun r _ => ?_),?_,?_,rc_push hrc hyl hyr hyf,?_,by omega⟩
             · have hpl:a + 1 ≤ fs'.length:=by obtain ⟨t,ht⟩:=unhide Hpre; rw [ht,List.length_append]; omega
               rw [List.take_append_of_le_length hpl]
             · refine left_blk (W:=w6) ?_ (hkp _ (by omega) (by omega))
               obtain ⟨D,h1,h2⟩:=hlf6
               exact ⟨D,h1,fun i => by rw [h2 i]; by_cases e:i = y <;> simp [e,hyl]⟩
             · have e2:castL (fs' ++ [y]) = castL fs' ++ [(y:Int)]:=by simp [castL]
               rw [castL_len,List.length_append,e2,← vints_snoc]
               exact hown7
             · have hga:∀ k,(Value.slice (some ⟨g',0,none⟩) fs'.length cp').ownBlock = some k → w.heap.size ≤ k:=fun k hk => by
                 have e3:g' = k:=by simpa [Value.ownBlock] using hk
                 omega
               exact (hb6.alloc hb6.size _).grown hgrow (Nat.le_trans hb6.size hal.size) hga)
           have Ho7:=hide (own_blk ho6 (fun k hk => hkp k (ho6.lt k hk).2 (fun e => hne (by rw [← e]; exact hk))))
           have Hne7:Hid (∀ k,some k = some g7 → (Value.slice (some ⟨_,0,none⟩) L.length _).ownBlock ≠ some k):=hide (fun k hk e => by
             cases hk
             rcases hg7 with h | h
             · exact hne (e.trans h.symm)
             · have:=(ho6.lt g7 e).2
               omega)
           clear hown7 hgrow hmk6 hlf6 hb6 ho6 hrc HA hkp
           go_wp2
           go_roundw
           case rel => exact ⟨fs' ++ [y],j + 1,g7,cap7,by rw [castL_len,List.length_append]; rfl,by go_num,by omega,unhide HR7,(unhide Hpre).elim fun t ht => ⟨t ++ [y],by rw [ht,List.append_assoc]⟩,unhide Hin _ ⟨[y],rfl⟩ (by simp),unhide Ho7,unhide Hne7 _ rfl⟩
           case measure => simp [intOf]; omega
       · obtain rfl:j = L.length:=by omega
         have HR:=hide hR; have Hpre:=hide hpre; have Hin:=hide hin
         clear hR hpre hin hown
         go_wp2
         go_roundw
         case rel =>
           obtain ⟨t,ht⟩:=unhide Hpre
           have hR:=unhide HR
           refine ⟨fs',a + 1,g',cp',rfl,by go_num,hR.mrk,hR.lf,hR.fd,rc_next hR.rc (by rw [ht,List.length_append]; omega) (fun y hy => ?_),hR.bl,hR.le⟩
           have e1:fs'.getD a 0 = rr:=by rw [ht,List.getD_eq_getElem?_getD,List.getElem?_append_left hlt,← List.getD_eq_getElem?_getD]; exact hrr
           rw [e1,hL] at hy
           obtain ⟨i,hi,e2⟩:=List.getElem_of_mem hy
           have:=unhide Hin i hi
           rw [List.getD_eq_getElem?_getD,List.getElem?_eq_getElem hi] at this
           simpa [e2] using this
         case measure => simp [intOf]; omega
   · obtain rfl:a = fs.length:=by have:=hR.rc.le; omega
     have Hend:=hide (rc_end (unhide Hok) hR.rc)
     have HR:=hide hR
     clear hR
     go_wp2
     go_ret
     refine ⟨w.heap.size,rfl,(unhide HR).mrk.congr (fun r _ => ?_),Nat.le_refl _,(unhide HR).bl⟩
     rw [List.take_of_length_le (Nat.le_refl _),← unhide Hend]
end Go.Proofs.YtagohbpbgjelaaaGreatDoor

/- The code's length of a row. -/
namespace Go.Proofs.YtagohbpbgjelaaaGreatDoor
open Go.RowKit

/-- What a row's rules have, summed up. -/
def smA (L:Nat → Int):List Nat → Int
 | [] => 0
 | x :: l => L x + smA L l
theorem smA_append (L:Nat → Int):∀ (a b:List Nat),smA L (a ++ b) = smA L a + smA L b
 | [],b => by simp [smA]
 | x :: a,b => by show L x + smA L (a ++ b) = (L x + smA L a) + smA L b; rw [smA_append L a b]; omega
theorem smA_bound {L:Nat → Int} (h:∀ x,-1 ≤ L x ∧ L x ≤ 65537):∀ (l:List Nat),-(l.length:Int) ≤ smA L l ∧ smA L l ≤ 65537 * l.length
 | [] => by simp [smA]
 | x :: l => by
   have:=smA_bound h l
   have:=h x
   show -((x :: l).length:Int) ≤ L x + smA L l ∧ L x + smA L l ≤ 65537 * ((x :: l).length:Int)
   rw [List.length_cons]
   push_cast
   omega
theorem smA_fd {L:Nat → Int}:∀ (l:List Nat),(∀ x,x ∈ l → 0 ≤ L x) → smA L l = sumL L l
 | [],_ => rfl
 | x :: l, h => by
   have h1:=smA_fd l (fun y hy => h y (by simp [hy]))
   have h2:=h x (by simp)
   show L x + smA L l = sumL L (x :: l)
   unfold sumL
   rw [if_pos h2,h1]
set_option maxHeartbeats 2000000 in
set_option maxRecDepth 100000 in
theorem length_any (gb : Nat) (nk n : Nat) (ka : Option Addr) (kc : Nat) (hnk : nk ≤ 1024) (hn : n ≤ 1048576) (ro : Option Addr) (rowc : Nat) (row : List Int) (hl : row.length ≤ 64) (hx : ∀ x, x ∈ row → 0 ≤ x ∧ x < nk + n) (bb : Nat) (L : Nat → Int) (hL : ∀ x, -1 ≤ L x ∧ L x ≤ 65537) (w : World) (c0 : w.cell? ⟨gb, 0, none⟩ = some (.slice ka nk kc)) (hgb : gb < w.heap.size) (hrow : NRow w.heap.size w ro row) (hb : w.rowIs bb 3 n (fun r => .int .i64 (L r))) :
   Calls Tryz.prog 112 #[.pointer (some ⟨gb,0,none⟩),.slice ro row.length rowc,.slice (some ⟨bb,0,none⟩) n n] w fun e w' => e = .returned (.int .i64 ((row.length:Int) - (rulesL nk row).length + smA L ((rulesL nk row).map Int.toNat))) ∧ Below w.heap.size w w':=by
 have HR:=hide (rulesOf_any gb nk ka kc hnk ro rowc row (by omega) (fun x h => by have:=hx x h; omega) w c0 hgb hrow)
 have hrlen:=rulesL_len (nk:=nk) row
 have Hin:Hid (∀ x,x ∈ rulesL nk row → 0 ≤ x ∧ x < n):=hide (fun x h => by
   have h1 : ∃ y, y ∈ row ∧ (nk : Int) ≤ y ∧ x = y - nk := by
     clear hrlen HR hrow hl
     induction row with
     | nil => cases h
     | cons y row ih =>
       rw [rulesL_cons,List.mem_append] at h
       rcases h with h | h
       · by_cases hk:(nk:Int) ≤ y
         · rw [if_pos hk] at h
           exact ⟨y,by simp,hk,by simpa using h⟩
         · rw [if_neg hk] at h; cases h
       · obtain ⟨z,h1,h2⟩:=ih (fun x hx' => hx x (by simp [hx'])) h
         exact ⟨z,by simp [h1],h2⟩
   obtain ⟨y,h1,h2,h3⟩:=h1
   have:=hx y h1
   omega)
 have Hb:=hide hb; have HL:=hide hL
 have hwr:IntKind.i64.wrap ((row.length:Int) - (rulesL nk row).length) = (row.length:Int) - (rulesL nk row).length:=by rw [IntKind.wrap_i64]; omega
 clear hrow c0 hb hL hx
 generalize hrs:rulesL nk row = rs at *
 go_enter Tryz.func112,Tryz.ntmps112
 go_wp2_with fail
 refine (unhide HR).mono ?_
 rintro e w2 ⟨v2,rfl,ho2,hb2⟩
 obtain ⟨va,vc,rfl⟩:=own_form ho2
 obtain ⟨_,_,he2,hn2⟩:=own_nrow ho2
 cases he2
 have Hn2:=hide hn2; have Hb2:=hide hb2
 have hrow2:=hide ((unhide Hb).of_block (hb2.block _ (unhide Hb).lt))
 clear ho2 hn2 hb2 HR Hb
 go_wp2_with fail
 go_wp2
 go_loopw [8,21] (fun u x W => ∃ i:Nat,x = .int .i64 i ∧ i ≤ rs.length ∧ u = .int .i64 ((row.length:Int) - rs.length + smA L ((rs.take i).map Int.toNat)) ∧ W = w2) (fun _ x _ => rs.length - (intOf x).toNat)
 case atStart => exact ⟨0,rfl,Nat.zero_le _,by simp [smA],rfl⟩
 case round =>
   obtain ⟨i,rfl,hi,rfl,rfl⟩:=hrel
   by_cases hil:i < rs.length
   · have hil':(i:Int) < rs.length:=by omega
     obtain ⟨b9,o9,rfl,hb9,hc9⟩:=nrow_at (unhide Hn2) (k:=i) hil
     have hin:=unhide Hin _ (mem_getD hil)
     have etk:rs.take (i + 1) = rs.take i ++ [rs.getD i 0]:=by rw [List.take_add_one,List.getD_eq_getElem?_getD,List.getElem?_eq_getElem hil]; rfl
     have esm:smA L ((rs.take (i + 1)).map Int.toNat) = smA L ((rs.take i).map Int.toNat) + L (rs.getD i 0).toNat:=by
       rw [etk,List.map_append,smA_append]
       simp [smA]
     have hbd:=smA_bound (unhide HL) ((rs.take i).map Int.toNat)
     have hlen:((rs.take i).map Int.toNat).length ≤ 64:=by rw [List.length_map,List.length_take]; omega
     have hbl:=unhide HL (rs.getD i 0).toNat
     generalize smA L ((rs.take i).map Int.toNat) = sa at *
     generalize rs.getD i 0 = x at *
     obtain ⟨r,rfl⟩:∃ r:Nat,x = (r:Int):=⟨x.toNat,by omega⟩
     rw [Int.toNat_natCast] at esm hbl
     have hr:r < n:=by omega
     have lc:=(unhide hrow2).cell hr
     have hwr2:IntKind.i64.wrap ((row.length:Int) - rs.length + sa + L r) = (row.length:Int) - rs.length + (sa + L r):=by rw [IntKind.wrap_i64]; omega
     clear etk hwr hbd
     go_wp2
     go_roundw
     case rel => exact ⟨i + 1,by go_num,by omega,by rw [esm],trivial⟩
     case measure => simp [intOf]; omega
   · obtain rfl:i = rs.length:=by omega
     rw [List.take_length]
     clear hwr
     go_wp2
     go_ret
     exact ⟨rfl,unhide Hb2⟩
end Go.Proofs.YtagohbpbgjelaaaGreatDoor

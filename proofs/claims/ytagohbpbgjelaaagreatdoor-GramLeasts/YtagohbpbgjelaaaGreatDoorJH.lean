/- The writer: how it lies. -/
import Derived.Test.YtagohbpbgjelaaaGreatDoorHQ
import Derived.Test.YtagohbpbgjelaaaGreatDoorGJ
import Derived.Test.YtagohbpbgjelaaaGreatDoorSP
import Derived.Laws.AppendOwnNone
import Derived.Test.YtagohbpbgjelaaaGreatDoorW1
namespace Go.Proofs.YtagohbpbgjelaaaGreatDoor
open Go.RowKit Go.Maps

/-- A span, as a value, and how it reads. -/
def spV (p:Nat × Nat):Value:=.agg #[.int .i64 (p.1:Nat),.int .i64 (p.2:Nat)]
def spD (p:Nat × Nat):DataW Unit:=.agg [.lit (.int .i64 (p.1:Nat)),.lit (.int .i64 (p.2:Nat))]
def spanL:List Value → Option (DataW Unit × List MemPlace)
 | [.int .i64 a,.int .i64 b] => some (.agg [.lit (.int .i64 a),.lit (.int .i64 b)],[])
 | _ => none
def spanE:Value → Option (DataW Unit × List MemPlace)
 | .agg cs => spanL cs.toList
 | _ => none
theorem spanE_mk (p:Nat × Nat):spanE (spV p) = some (spD p,[]):=rfl
theorem spanE_at {v:Value} {ps:List MemPlace} {p:Nat × Nat} (h:spanE v = some (spD p,ps)):v = spV p:=by
 unfold spanE at h
 split at h
 · rename_i cs
   unfold spanL at h
   split at h
   · rename_i a b hl
     unfold spD at h
     simp at h
     obtain ⟨⟨h1,h2⟩,-⟩:=h
     have:cs = #[.int .i64 a,.int .i64 b]:=by rw [← Array.toList_inj]; exact hl
     rw [this,h1,h2]; rfl
   · cases h
 · cases h
theorem zero201 (w:World):(zeroValue 201).run Tryz.prog w = .ok (spV (0,0)) w:=by kernel_rfl
structure WrAt (B n:Nat) (wb gb cb mb:Nat) (R:List Int) (M:Nat → Option (Nat × Nat)) (rv:Value) (w:World):Prop where
 bx:w.heap[wb]? = some (.cells #[.pointer (some ⟨gb,0,none⟩),.slice (some ⟨cb,0,none⟩) n n,rv,.map (some mb)] 158 (0,0))
 row:w.ownsRow B 3 1 rv R.length (vints R)
 mp:∃ D,w.ownsMap (H:=Unit) Tryz.prog 3 spanE mb (cntM M n) D ∧ ∀ r:Nat,r < n → Maps.has D (ki r) = (M r).isSome ∧ D.atKey (ki r) (spD (0,0)) = spD ((M r).getD (0,0))
 b1:B ≤ wb
 b2:B ≤ mb
section
variable {B n wb gb cb mb:Nat} {R:List Int} {M:Nat → Option (Nat × Nat)} {rv:Value} {w w':World}
theorem mapOf {k:Nat} {D:DataW Unit} {c:Nat} (h:w.ownsMap (H:=Unit) Tryz.prog 3 spanE k c D):∃ es cl,w.heap[k]? = some (.map es cl):=by
 obtain ⟨es,cl,h1,-⟩:=h
 exact ⟨es,cl,h1⟩
theorem map_fr {O:Nat → Prop} {k c:Nat} {D:DataW Unit} (h:w.ownsMap (H:=Unit) Tryz.prog 3 spanE k c D) (hf:Fr O w w') (hk:¬ O k):w'.ownsMap (H:=Unit) Tryz.prog 3 spanE k c D:=by
 obtain ⟨es,cl,h1,h2⟩:=h
 exact ⟨es,cl,(hf.2.1 k (Array.getElem?_eq_some_iff.1 h1).1 hk).trans h1,h2⟩
theorem wr_below (h:WrAt B n wb gb cb mb R M rv w) (hb:Below w.heap.size w w'):WrAt B n wb gb cb mb R M rv w':=by
 obtain ⟨D,hm,hD⟩:=h.mp
 exact ⟨(hb.block _ (Array.getElem?_eq_some_iff.1 h.bx).1).trans h.bx,own_blkB h.row hb,⟨D,map_fr (O:=fun _ => False) hm (below_fr hb) (fun h => h),hD⟩,h.b1,h.b2⟩
/-- The row was gone behind, and stored. -/
theorem wr_push {w1 w2:World} (h:WrAt B n wb gb cb mb R M rv w) (hb:Below w.heap.size w w1) {rv':Value} {R':List Int} (hg:w1.grownBy w2 rv.ownBlock) (ho:w2.ownsRow B 3 1 rv' R'.length (vints R')):WrAt B n wb gb cb mb R' M rv' (w2.setCell ⟨wb,2,none⟩ rv'):=by
 have h1:=wr_below h hb
 have nb:=own_other h1.row h1.bx (by decide)
 have hl:∀ {k:Nat} {o:Obj},w1.heap[k]? = some o → rv.ownBlock ≠ some k → w2.heap[k]? = some o:=fun {k o} hk' hne => (hg.block k (Array.getElem?_eq_some_iff.1 hk').1 (fun e => hne e.symm)).trans hk'
 have hbox:=hl h1.bx nb
 obtain ⟨D,hm,hD⟩:=h1.mp
 obtain ⟨es,cl,hmb⟩:=mapOf hm
 have nm:rv.ownBlock ≠ some mb:=fun e => by
   obtain ⟨cs,h2⟩:=own_ty h1.row e
   rw [h2] at hmb; cases hmb
 have hmb2:=hl hmb nm
 have hm2:w2.ownsMap (H:=Unit) Tryz.prog 3 spanE mb (cntM M n) D:=by
   obtain ⟨es',cl',h2,h3⟩:=hm
   exact ⟨es',cl',hl h2 nm,h3⟩
 refine ⟨?_,own_set ho (own_other ho hbox (by decide)),⟨D,map_fr (O:=(· = wb)) hm2 (fr_set (O:=(· = wb)) (fr_refl _ _) (by rfl) _) (fun e => ?_),hD⟩,h.b1,h.b2⟩
 · have:=Wk.block_set (i:=2) hbox rv'
   simpa using this
 · have e:mb = wb:=e
   rw [e,hbox] at hmb2; cases hmb2
theorem wr_look (h:WrAt B n wb gb cb mb R M rv w) {r:Nat} (hr:r < n) (hn:n ≤ 2048):(Instr.lookup 156 (.map (some mb)) (.int .i64 (r:Nat)) true).run Tryz.prog w = .ok (.tuple #[spV ((M r).getD (0,0)),.bool (M r).isSome]) w:=by
 obtain ⟨D,hm,hD⟩:=h.mp
 have hwf:(Lit.int .i64 (r:Int)).wf = true:=WalkArith.wf_i64 (by omega)
 obtain ⟨v,ps,h1,h2⟩:=hm.look_ok law3 Tryz.underlying156 (zero201 w) (spanE_mk (0,0)) (keyOf_int_mk Tryz.underlying3 hwf)
 obtain ⟨e1,e2⟩:=hD r hr
 rw [e2] at h2
 rw [h1,e1,spanE_at h2]
theorem wr_put (h:WrAt B n wb gb cb mb R M rv w) {r:Nat} (hr:r < n) (hn:n ≤ 2048) (hB:B ≤ w.heap.size) (hM:M r = none) (p:Nat × Nat):∃ w',(Instr.mapUpdate 156 (.map (some mb)) (.int .i64 (r:Nat)) (spV p)).run Tryz.prog w = .ok () w' ∧ WrAt B n wb gb cb mb R (upM M r p) rv w' ∧ Below B w w':=by
 obtain ⟨D,hm,hD⟩:=h.mp
 have hwf:(Lit.int .i64 (r:Int)).wf = true:=WalkArith.wf_i64 (by omega)
 have hc:=cntM_le M n
 obtain ⟨w2,h1,h2,h3⟩:=hm.update law3 Tryz.underlying156 (by unfold maxLen; omega) (keyOf_int_mk Tryz.underlying3 hwf) (spanE_mk p)
 obtain ⟨es,cl,hmb⟩:=mapOf hm
 have hl:∀ {k t:Nat} {cs:Array Value},w.heap[k]? = some (.cells cs t (0,0)) → w2.heap[k]? = some (.cells cs t (0,0)):=fun {k t cs} hk => (h3.block k (Array.getElem?_eq_some_iff.1 hk).1 (fun e => by
   cases e
   rw [hk] at hmb; cases hmb)).trans hk
 refine ⟨w2,h1,⟨hl h.bx,⟨h.row.1,?_⟩,⟨D.put (ki r) (spD p),by rw [cntM_up M r p hM n hr]; exact h2,fun s hs => ?_⟩,h.b1,h.b2⟩,⟨h3.os,h3.tape,h3.output,h3.size,fun k hk => h3.block k (by omega) (fun e => by cases e; have:=h.b2; omega)⟩⟩
 · rcases h.row.2 with h4 | ⟨g,cap,cur,hv,hg,hh,rest⟩
   · exact .inl h4
   · exact .inr ⟨g,cap,cur,hv,hg,hl hh,rest⟩
 · by_cases e:s = r
   · subst e
     rw [has_put_same hm.isMap (show WideAt.IsKeyLit (ki s) from trivial),atKey_put_same hm.isMap (show WideAt.IsKeyLit (ki s) from trivial)]
     have:upM M s p s = some p:=by unfold upM; rw [if_pos rfl]
     rw [this]
     exact ⟨rfl,rfl⟩
   · have hne:ki s ≠ ki r:=fun e' => by simp at e'; omega
     rw [has_put_other hne,atKey_put_other hne,(hD s hs).1,(hD s hs).2]
     have:upM M r p s = M s:=by unfold upM; rw [if_neg e]
     rw [this]
     exact ⟨rfl,rfl⟩
end
end Go.Proofs.YtagohbpbgjelaaaGreatDoor

/- The code's write, where a rule's row stands already. -/
namespace Go.Proofs.YtagohbpbgjelaaaGreatDoor
open Go.RowKit Go.Maps

theorem addr_addN (b off j:Nat):(⟨b,off,none⟩:Addr).add j = ⟨b,off + j,none⟩:=by
 unfold Addr.add
 split
 · rename_i h; subst h; rfl
 · rfl
theorem run_append_none_c {P:Program} {w:World} (base:Nat) (t ty e:TypeId) (i:TypeInfo) (size:Nat) (ht:P.underlying t = some (.slice e)) (hi:P.info? e = some i)
   (v:Value) (n:Nat) (xs:List Value) (hown:w.ownsRow base e size v n xs) (c:Nat) :
   (Builtin.append_ #[t,t] ty #[v,.slice none 0 c]).run P w = .ok v w:=by
 rcases hown.2 with ⟨rfl,rfl⟩ | ⟨g,cap,cur,rfl,_,_,hnc,_⟩
 · simp [Builtin.append_,run_underlying ht,sizeOf,typeInfo,hi,Builtin.lenOf,Builtin.firstCells]
 · simp [Builtin.append_,run_underlying ht,sizeOf,typeInfo,hi,Builtin.lenOf,Builtin.firstCells,hnc,storeCells]
/-- Some values lie there, one behind the other. -/
def LieAt (w:World) (la:Option Addr) (m:Nat) (vs:List Value):Prop:=(m = 0 ∧ vs = []) ∨ ∃ b off,la = some ⟨b,off,none⟩ ∧ ∀ j u,vs[j]? = some u → w.cell? ⟨b,off + j,none⟩ = some u
/-- append(l, m...), l one's own, m any. -/
theorem wp_append_any {P:Program} {w:World} {o:Oper} {a:Act} {K:Act → World → Prop} {Q:Exit → Act → World → Prop} (s x:Operand) (t:TypeId)
   (ho:o.op = .call { callee:=.builtin .append,args:=#[s,x],argTypes:=#[t,t] })
   (base:Nat) (e:TypeId) (i:TypeInfo) (z:Value) (size bytes:Nat) (ht:P.underlying t = some (.slice e)) (hi:P.info? e = some i) (hz:i.zero = some z)
   (hsize:i.size = size) (hby:i.bytes = bytes) (hzs:z.cells.size = size) (hsz:0 < size)
   (v:Value) (n:Nat) (xs:List Value) (hs:a.eval s = v) (hown:w.ownsRow base e size v n xs)
   (la:Option Addr) (m c:Nat) (vs:List Value) (hx:a.eval x = .slice la m c) (hl:vs.length = m * size) (hv:LieAt w la m vs) (h1:∀ u ∈ vs,u.oneCell' = true)
   (h63:n + m ≤ maxLen) (hbytes:(n + m) * bytes ≤ 140737488355328) (hbase:base ≤ w.heap.size)
   (h:∀ v' w',w'.ownsRow base e size v' (n + m) (xs ++ vs) → w.grownBy w' v.ownBlock → K (a.put o.dst v') w'):o.wp P a w K Q:=by
 cases la with
 | none =>
   obtain ⟨rfl,rfl⟩:m = 0 ∧ vs = []:=by
     rcases hv with h | ⟨b,off,h,-⟩
     · exact h
     · cases h
   have hrun:=run_append_none_c (P:=P) (w:=w) base t o.type e i size ht hi v n xs hown c
   unfold Oper.wp
   simp [execOp,ho,resolve,invoke,builtin,hs,hx,hrun,Result.andThen]
   exact h _ _ (by simpa using hown) ⟨rfl,rfl,rfl,Nat.le_refl _,fun _ _ _ => rfl⟩
 | some ad =>
   refine wp_append_own w s x t ho base e i z size bytes ht hi hz hsize hby hzs hsz v n xs hs hown ad m c vs hx hl (fun j u hu => ?_) h1 h63 hbytes hbase (fun v' w' h2 h3 _ => h v' w' h2 h3)
   rcases hv with ⟨-,rfl⟩ | ⟨b,off,hb,hc⟩
   · simp at hu
   · cases hb; rw [addr_addN]; exact hc j u hu
theorem step_append_any {P:Program} {w:World} {ops:Array Oper} {o:Oper} {a:Act} {K:Act → World → Prop} {Q:Exit → Act → World → Prop} {E:Prop} (hgd:o.guard = none) (s x:Operand) (t:TypeId)
   (ho:o.op = .call { callee:=.builtin .append,args:=#[s,x],argTypes:=#[t,t] })
   (base:Nat) (e:TypeId) (i:TypeInfo) (z:Value) (size bytes:Nat) (ht:P.underlying t = some (.slice e)) (hi:P.info? e = some i) (hz:i.zero = some z)
   (hsize:i.size = size) (hby:i.bytes = bytes) (hzs:z.cells.size = size) (hsz:0 < size)
   (v:Value) (n:Nat) (xs:List Value) (hs:a.eval s = v) (hown:w.ownsRow base e size v n xs)
   (la:Option Addr) (m c:Nat) (vs:List Value) (hx:a.eval x = .slice la m c) (hl:vs.length = m * size) (hv:LieAt w la m vs) (h1:∀ u ∈ vs,u.oneCell' = true)
   (h63:n + m ≤ maxLen) (hbytes:(n + m) * bytes ≤ 140737488355328) (hbase:base ≤ w.heap.size)
   (h:∀ v' w',w'.ownsRow base e size v' (n + m) (xs ++ vs) → w.grownBy w' v.ownBlock → K (a.put o.dst v') w') :
   if Region.wanted o (yielded ops a.tmps) = true then Oper.wp P o a w K Q else E:=by
 have hw:Region.wanted o (yielded ops a.tmps) = true:=by simp [Region.wanted,hgd]
 rw [if_pos hw]
 exact wp_append_any s x t ho base e i z size bytes ht hi hz hsize hby hzs hsz v n xs hs hown la m c vs hx hl hv h1 h63 hbytes hbase h
set_option maxRecDepth 100000 in
theorem slice27lh (a:Option Addr) (n c lo hi:Nat) (h1:lo ≤ hi) (h2:hi ≤ c) (w:World):(Instr.slice 27 (.slice a n c) (some (.int .i64 (lo:Int))) (some (.int .i64 (hi:Int))) none).run Tryz.prog w = .ok (.slice (if c = lo then a else a.map (·.add lo)) (hi - lo) (c - lo)) w:=by
 rw [run_slice_lh (w:=w) 27 a n c Tryz.underlying27 .i64 .i64 (lo:Int) (hi:Int) (by omega) (by omega) (by omega)]
 have e:((lo:Int)).toNat = lo:=by omega
 have e2:((hi:Int)).toNat = hi:=by omega
 rw [e,e2]
 simp [go_sem]
/-- A piece of one's own row. -/
theorem piece_lies {B : Nat} {w : World} {a : Option Addr} {c : Nat} {R : List Int} (h : w.ownsRow B 3 1 (.slice a R.length c) R.length (vints R)) {lo hi : Nat} (h1 : lo ≤ hi) (h2 : hi ≤ R.length) : LieAt w (if c = lo then a else a.map (·.add lo)) (hi - lo) (vints ((R.take hi).drop lo)) := by
 by_cases e0:hi = lo
 · subst e0
   refine .inl ⟨by omega,?_⟩
   have:(R.take hi).drop hi = []:=by apply List.eq_nil_of_length_eq_zero; simp
   rw [this]; rfl
 · rcases h.2 with ⟨hv,hn⟩ | ⟨g,cap,cur,hv,hg,hh,hcl,-⟩
   · omega
   · cases hv
     have hcR:R.length ≤ c:=by
       have:=hcl
       omega
     refine .inr ⟨g,lo,by rw [if_neg (by omega)]; simp only [Option.map_some,Option.some.injEq]; exact (addr_addN g 0 lo).trans (by rw [Nat.zero_add]),fun j u hu => ?_⟩
     have hj:j < hi - lo:=by
       have:=(List.getElem?_eq_some_iff.1 hu).1
       rw [vints_len,List.length_drop,List.length_take] at this
       omega
     have h3:(vints R)[lo + j]? = some u:=by
       rw [← hu]
       unfold vints
       rw [List.getElem?_map,List.getElem?_map,List.getElem?_drop,List.getElem?_take_of_lt (by omega)]
     rw [h.cellAt (lo + j) (by omega)]
     exact h3
end Go.Proofs.YtagohbpbgjelaaaGreatDoor

/- The code's write: where a rule's row stands already. -/
namespace Go.Proofs.YtagohbpbgjelaaaGreatDoor
open Go.RowKit Go.Maps

set_option maxHeartbeats 2000000 in
set_option maxRecDepth 100000 in
theorem write_found (B n wb gb cb mb r:Nat) (R:List Int) (M:Nat → Option (Nat × Nat)) (rv:Value) (hn:n ≤ 2048) (hr:r < n) (p:Nat × Nat) (hp1:p.1 ≤ p.2) (hp2:p.2 ≤ R.length) (hl:R.length + (p.2 - p.1) ≤ 65536) (hM:M r = some p) (w:World) (hB:B ≤ w.heap.size) (h:WrAt B n wb gb cb mb R M rv w) :
   Calls Tryz.prog 111 #[.pointer (some ⟨wb,0,none⟩),.int .i64 (r:Nat)] w fun e w' => (∃ v,e = .returned v) ∧ ∃ rv',WrAt B n wb gb cb mb (R ++ (R.take p.2).drop p.1) M rv' w' ∧ Below B w w':=by
 obtain ⟨i3,hi3,hz30,hz31,hz32⟩:=info_parts info3
 obtain ⟨ra,rc,rfl⟩:=own_form h.row
 have hbx:=h.bx
 have c3:w.cell? ⟨wb,3,none⟩ = some (.map (some mb)):=by unfold World.cell?; rw [hbx]; rfl
 have hlk:=wr_look h hr hn
 rw [hM] at hlk
 replace hlk:(Instr.lookup 156 (.map (some mb)) (.int .i64 (r:Nat)) true).run Tryz.prog w = .ok (.tuple #[.agg #[.int .i64 (p.1:Nat),.int .i64 (p.2:Nat)],.bool true]) w:=hlk
 have hal:Below w.heap.size w (w.alloc (.cells #[.int .i64 (p.1:Nat),.int .i64 (p.2:Nat)] 201)):=(Below.refl _ _).alloc (Nat.le_refl _) _
 have hnw:(w.alloc (.cells #[.int .i64 (p.1:Nat),.int .i64 (p.2:Nat)] 201)).heap[w.heap.size]? = some (.cells #[.int .i64 (p.1:Nat),.int .i64 (p.2:Nat)] 201 (0,0)):=Go.Deep.blk_alloc_new _ _
 have hW2:=wr_below h hal
 have hbx2:=hW2.bx
 have s0:(w.alloc (.cells #[.int .i64 (p.1:Nat),.int .i64 (p.2:Nat)] 201)).cell? ⟨w.heap.size,0,none⟩ = some (.int .i64 (p.1:Nat)):=by unfold World.cell?; rw [hnw]; rfl
 have s1:(w.alloc (.cells #[.int .i64 (p.1:Nat),.int .i64 (p.2:Nat)] 201)).cell? ⟨w.heap.size,1,none⟩ = some (.int .i64 (p.2:Nat)):=by unfold World.cell?; rw [hnw]; rfl
 have d2:(w.alloc (.cells #[.int .i64 (p.1:Nat),.int .i64 (p.2:Nat)] 201)).cell? ⟨wb,2,none⟩ = some (.slice ra R.length rc):=by unfold World.cell?; rw [hbx2]; rfl
 have hB2:B ≤ (w.alloc (.cells #[.int .i64 (p.1:Nat),.int .i64 (p.2:Nat)] 201)).heap.size:=by have:=hal.size; omega
 have hRc:R.length ≤ rc:=by
   rcases h.row.2 with ⟨hv,hn⟩ | ⟨g,cap,cur,hv,hg,hh,hcl,-⟩
   · omega
   · cases hv; omega
 have hsl0:=fun w => slice27lh ra R.length rc p.1 p.2 hp1 (by omega) w
 have hpie:=piece_lies hW2.row hp1 hp2
 obtain ⟨sa,hsa⟩:∃ sa,(if rc = p.1 then ra else ra.map (·.add p.1)) = sa:=⟨_,rfl⟩
 rw [hsa] at hpie
 have hsl:∀ w,(Instr.slice 27 (.slice ra R.length rc) (some (.int .i64 (p.1:Int))) (some (.int .i64 (p.2:Int))) none).run Tryz.prog w = .ok (.slice sa (p.2 - p.1) (rc - p.1)) w:=fun w => by rw [hsl0 w,hsa]
 have Hpie:=hide hpie
 clear hsl0 hsa hpie
 have HFin:Hid (∀ v7 W7,W7.ownsRow B 3 1 v7 (R.length + (p.2 - p.1)) (vints R ++ vints ((R.take p.2).drop p.1)) → (w.alloc (.cells #[.int .i64 (p.1:Nat),.int .i64 (p.2:Nat)] 201)).grownBy W7 (Value.slice ra R.length rc).ownBlock → WrAt B n wb gb cb mb (R ++ (R.take p.2).drop p.1) M v7 (W7.setCell ⟨wb,2,none⟩ v7) ∧ W7.cell? ⟨wb,2,none⟩ = some (.slice ra R.length rc) ∧ W7.frozen? ⟨wb,2,none⟩ = false ∧ (W7.cell? ⟨w.heap.size,0,none⟩ = some (.int .i64 (p.1:Nat)) ∧ W7.cell? ⟨w.heap.size,1,none⟩ = some (.int .i64 (p.2:Nat))) ∧ Below B w (W7.setCell ⟨wb,2,none⟩ v7)):=hide (fun v7 W7 ho hg => by
   have e1:vints R ++ vints ((R.take p.2).drop p.1) = vints (R ++ (R.take p.2).drop p.1):=(vints_app _ _).symm
   have e2:R.length + (p.2 - p.1) = (R ++ (R.take p.2).drop p.1).length:=by rw [List.length_append,List.length_drop,List.length_take]; omega
   rw [e1,e2] at ho
   have nbx:=own_other hW2.row hW2.bx (by decide)
   have nsb:=own_other hW2.row hnw (by decide)
   have hlt:=(Array.getElem?_eq_some_iff.1 hbx2).1
   have hlt2:=(Array.getElem?_eq_some_iff.1 hnw).1
   have k1:=(hg.block wb hlt (fun e => nbx e.symm)).trans hbx2
   have k2:=(hg.block w.heap.size hlt2 (fun e => nsb e.symm)).trans hnw
   refine ⟨wr_push h hal hg ho,by unfold World.cell?; rw [k1]; rfl,by unfold World.frozen?; rw [k1]; rfl,⟨by unfold World.cell?; rw [k2]; rfl,by unfold World.cell?; rw [k2]; rfl⟩,?_⟩
   exact (((below_le hal hB).grown hg (by omega) (fun j hj => (hW2.row.lt j hj).1))).setCell h.b1 _)
 have HS7:Hid (∀ v7 W7,W7.ownsRow B 3 1 v7 (R.length + (p.2 - p.1)) (vints R ++ vints ((R.take p.2).drop p.1)) → (w.alloc (.cells #[.int .i64 (p.1:Nat),.int .i64 (p.2:Nat)] 201)).grownBy W7 (Value.slice ra R.length rc).ownBlock → (W7.setCell ⟨wb,2,none⟩ v7).cell? ⟨w.heap.size,0,none⟩ = some (.int .i64 (p.1:Nat)) ∧ (W7.setCell ⟨wb,2,none⟩ v7).cell? ⟨w.heap.size,1,none⟩ = some (.int .i64 (p.2:Nat))):=hide (fun v7 W7 ho hg => by
   obtain ⟨-,-,-,⟨k1,k2⟩,-⟩:=unhide HFin v7 W7 ho hg
   have hne:w.heap.size ≠ wb:=by have:=(Array.getElem?_eq_some_iff.1 hbx).1; omega
   exact ⟨(World.cell?_of_block (heap_other W7 hne)).trans k1,(World.cell?_of_block (heap_other W7 hne)).trans k2⟩)
 have HW2:=hide hW2
 clear h hbx hW2 hbx2 hM hal hnw
 go_enter Tryz.func111,Tryz.ntmps111
 go_wp2_with fail
 refine wp_region_held_drew (S:=(fun V:World => V.cell? ⟨w.heap.size,0,none⟩ = some (.int .i64 (p.1:Nat)) ∧ V.cell? ⟨w.heap.size,1,none⟩ = some (.int .i64 (p.2:Nat)))) (by kernel_rfl) (by exact ⟨s0,s1⟩) (fun hHeld => ?_)
 refine take_dst (i:=0) (dst:=some 21) (v:=?_) rfl rfl (by kernel_rfl) (by kernel_rfl) (by kernel_rfl) (fun _ _ _ h => h) (Or.inl ⟨by rfl,?_⟩) hHeld ?_
 rotate_left
 · intro w hSw; obtain ⟨k0,k1⟩:=hSw; go_simp; try (with_reducible rfl)
 simp only [Act.put,List.setIfInBounds_toArray,List.set_cons_zero,List.set_cons_succ]
 refine take_dst (i:=1) (dst:=some 22) (v:=?_) rfl rfl (by kernel_rfl) (by kernel_rfl) (by kernel_rfl) (fun _ _ _ h => h) (Or.inl ⟨by rfl,?_⟩) hHeld ?_
 rotate_left
 · intro w hSw; obtain ⟨k0,k1⟩:=hSw; go_simp; try (with_reducible rfl)
 simp only [Act.put,List.setIfInBounds_toArray,List.set_cons_zero,List.set_cons_succ]
 refine take_dst (i:=2) (dst:=some 23) (v:=?_) rfl rfl (by kernel_rfl) (by kernel_rfl) (by kernel_rfl) (fun _ _ _ h => h) (Or.inl ⟨by rfl,?_⟩) hHeld ?_
 rotate_left
 · intro w hSw; obtain ⟨k0,k1⟩:=hSw; go_simp; try (with_reducible rfl)
 simp only [Act.put,List.setIfInBounds_toArray,List.set_cons_zero,List.set_cons_succ]
 refine take_dst (i:=3) (dst:=some 24) (v:=?_) rfl rfl (by kernel_rfl) (by kernel_rfl) (by kernel_rfl) (fun _ _ _ h => h) (Or.inl ⟨by rfl,?_⟩) hHeld ?_
 rotate_left
 · intro w hSw; obtain ⟨k0,k1⟩:=hSw; go_simp; try (with_reducible rfl)
 simp only [Act.put,List.setIfInBounds_toArray,List.set_cons_zero,List.set_cons_succ]
 refine take_dst (i:=5) (dst:=some 26) (v:=?_) rfl rfl (by kernel_rfl) (by kernel_rfl) (by kernel_rfl) (fun _ _ _ h => h) (Or.inl ⟨by rfl,?_⟩) hHeld ?_
 rotate_left
 · intro w hSw; obtain ⟨k0,k1⟩:=hSw; go_simp; try (with_reducible rfl)
 simp only [Act.put,List.setIfInBounds_toArray,List.set_cons_zero,List.set_cons_succ]
 refine take_dst (i:=6) (dst:=some 27) (v:=?_) rfl rfl (by kernel_rfl) (by kernel_rfl) (by kernel_rfl) (fun _ _ _ h => h) (Or.inl ⟨by rfl,?_⟩) hHeld ?_
 rotate_left
 · intro w hSw; obtain ⟨k0,k1⟩:=hSw; go_simp; try (with_reducible rfl)
 simp only [Act.put,List.setIfInBounds_toArray,List.set_cons_zero,List.set_cons_succ]
 refine take_dst (i:=7) (dst:=some 28) (v:=?_) rfl rfl (by kernel_rfl) (by kernel_rfl) (by kernel_rfl) (fun _ _ _ h => h) (Or.inl ⟨by rfl,?_⟩) hHeld ?_
 rotate_left
 · intro w hSw; obtain ⟨k0,k1⟩:=hSw; go_simp; try (with_reducible rfl)
 simp only [Act.put,List.setIfInBounds_toArray,List.set_cons_zero,List.set_cons_succ]
 refine take_dst (i:=9) (dst:=some 30) (v:=?_) rfl rfl (by kernel_rfl) (by kernel_rfl) (by kernel_rfl) (fun _ _ _ h => h) (Or.inl ⟨by rfl,?_⟩) hHeld ?_
 rotate_left
 · intro w hSw; obtain ⟨k0,k1⟩:=hSw; go_simp; try (with_reducible rfl)
 simp only [Act.put,List.setIfInBounds_toArray,List.set_cons_zero,List.set_cons_succ]
 refine take_dst (i:=10) (dst:=some 31) (v:=?_) rfl rfl (by kernel_rfl) (by kernel_rfl) (by kernel_rfl) (fun _ _ _ h => h) (Or.inl ⟨by rfl,?_⟩) hHeld ?_
 rotate_left
 · intro w hSw; obtain ⟨k0,k1⟩:=hSw; go_simp; try (with_reducible rfl)
 simp only [Act.put,List.setIfInBounds_toArray,List.set_cons_zero,List.set_cons_succ]
 refine take_dst (i:=11) (dst:=some 32) (v:=?_) rfl rfl (by kernel_rfl) (by kernel_rfl) (by kernel_rfl) (fun _ _ _ h => h) (Or.inl ⟨by rfl,?_⟩) hHeld ?_
 rotate_left
 · intro w hSw; obtain ⟨k0,k1⟩:=hSw; go_simp; try (with_reducible rfl)
 simp only [Act.put,List.setIfInBounds_toArray,List.set_cons_zero,List.set_cons_succ]
 refine take_dst (i:=12) (dst:=some 33) (v:=?_) rfl rfl (by kernel_rfl) (by kernel_rfl) (by kernel_rfl) (fun _ _ _ h => h) (Or.inl ⟨by rfl,?_⟩) hHeld ?_
 rotate_left
 · intro w hSw; obtain ⟨k0,k1⟩:=hSw; go_simp; try (with_reducible rfl)
 simp only [Act.put,List.setIfInBounds_toArray,List.set_cons_zero,List.set_cons_succ]
 refine wpAnyH_ready (rs:=[4,8]) (by kernel_rfl) (by simp) ?_
 refine AllReadyH.cons rfl (fun K hK => ?_) (AllReadyH.cons rfl (fun K hK => ?_) AllReadyH.nil)
 · go_simp
   refine hK.out _ _ (by exact ⟨s0,s1⟩) (fun hHeld => ?_)
   clear hK K
   refine wpAnyH_ready (rs:=[8]) (by kernel_rfl) (by simp) ?_
   refine AllReadyH.cons rfl (fun K hK => ?_) AllReadyH.nil
   go_simp
   refine hK.out _ _ (by exact ⟨s0,s1⟩) (fun hHeld => ?_)
   clear hK K
   refine take_dst (i:=13) (dst:=some 34) (v:=?_) rfl rfl (by kernel_rfl) (by kernel_rfl) (by kernel_rfl) (fun _ _ _ h => h) (Or.inl ⟨by rfl,?_⟩) hHeld ?_
   rotate_left
   · intro w hSw; obtain ⟨k0,k1⟩:=hSw; go_simp; try (with_reducible rfl)
   simp only [Act.put,List.setIfInBounds_toArray,List.set_cons_zero,List.set_cons_succ]
   refine wpAnyH_ready (rs:=[14]) (by kernel_rfl) (by simp) ?_
   refine AllReadyH.cons rfl (fun K hK => ?_) AllReadyH.nil
   refine step_append_any rfl (.tmp 25) (.tmp 34) 27 rfl B 3 i3 (.int .i64 0) 1 8 Tryz.underlying27 hi3 hz30 hz31 hz32 rfl (by decide) (.slice ra R.length rc) R.length (vints R) (by simp [Act.eval]) (unhide HW2).row sa (p.2 - p.1) (rc - p.1) (vints ((R.take p.2).drop p.1)) (by simp [Act.eval]) (by rw [vints_len,List.length_drop,List.length_take]; omega) (unhide Hpie) (vints_one _) (by unfold maxLen; omega) (by omega) hB2 ?_
   intro v7 W7 hown7 hgrow7
   obtain ⟨a7,c7,rfl⟩:=own_form hown7
   have hgrow7:(w.alloc (.cells #[.int .i64 (p.1:Nat),.int .i64 (p.2:Nat)] 201)).grownBy W7 (Value.slice ra R.length rc).ownBlock:=⟨hgrow7.os,hgrow7.tape,hgrow7.output,hgrow7.size,hgrow7.block⟩
   obtain ⟨hT7,hc7,hf7,hs7,hb7⟩:=unhide HFin _ W7 hown7 hgrow7
   go_simp
   refine hK.out _ _ hs7 (fun hHeld => ?_)
   clear hK K
   refine take_dst (i:=15) (dst:=some 36) (v:=?_) rfl rfl (by kernel_rfl) (by kernel_rfl) (by kernel_rfl) (fun _ _ _ h => h) (Or.inl ⟨by rfl,?_⟩) hHeld ?_
   rotate_left
   · intro w hSw; obtain ⟨k0,k1⟩:=hSw; go_simp; try (with_reducible rfl)
   simp only [Act.put,List.setIfInBounds_toArray,List.set_cons_zero,List.set_cons_succ]
   refine take_dst (i:=16) (dst:=some 37) (v:=?_) rfl rfl (by kernel_rfl) (by kernel_rfl) (by kernel_rfl) (fun _ _ _ h => h) (Or.inl ⟨by rfl,?_⟩) hHeld ?_
   rotate_left
   · intro w hSw; obtain ⟨k0,k1⟩:=hSw; go_simp; try (with_reducible rfl)
   simp only [Act.put,List.setIfInBounds_toArray,List.set_cons_zero,List.set_cons_succ]
   refine wpAnyH_ready (rs:=[17]) (by kernel_rfl) (by simp) ?_
   refine AllReadyH.cons rfl (fun K hK => ?_) AllReadyH.nil
   go_simp
   refine hK.out _ _ (unhide HS7 _ W7 hown7 hgrow7) (fun hHeld => ?_)
   clear hK K
   refine wpAnyH_done (by kernel_rfl) ?_ _
   have HT7:=hide hT7; have Hb7:=hide hb7
   clear hT7 hb7 hown7 hgrow7 hHeld hc7 hf7
   go_wp2
   refine bodyPost_ret (results_none rfl _ _ _) rfl ?_
   first | exact ⟨⟨_,rfl⟩,⟨_,unhide HT7⟩,unhide Hb7⟩ | exact ⟨⟨_,rfl⟩,_,unhide HT7,unhide Hb7⟩
 · go_simp
   refine hK.out _ _ (by exact ⟨s0,s1⟩) (fun hHeld => ?_)
   clear hK K
   refine take_dst (i:=13) (dst:=some 34) (v:=?_) rfl rfl (by kernel_rfl) (by kernel_rfl) (by kernel_rfl) (fun _ _ _ h => h) (Or.inl ⟨by rfl,?_⟩) hHeld ?_
   rotate_left
   · intro w hSw; obtain ⟨k0,k1⟩:=hSw; go_simp; try (with_reducible rfl)
   simp only [Act.put,List.setIfInBounds_toArray,List.set_cons_zero,List.set_cons_succ]
   refine wpAnyH_ready (rs:=[4]) (by kernel_rfl) (by simp) ?_
   refine AllReadyH.cons rfl (fun K hK => ?_) AllReadyH.nil
   go_simp
   refine hK.out _ _ (by exact ⟨s0,s1⟩) (fun hHeld => ?_)
   clear hK K
   refine wpAnyH_ready (rs:=[14]) (by kernel_rfl) (by simp) ?_
   refine AllReadyH.cons rfl (fun K hK => ?_) AllReadyH.nil
   refine step_append_any rfl (.tmp 25) (.tmp 34) 27 rfl B 3 i3 (.int .i64 0) 1 8 Tryz.underlying27 hi3 hz30 hz31 hz32 rfl (by decide) (.slice ra R.length rc) R.length (vints R) (by simp [Act.eval]) (unhide HW2).row sa (p.2 - p.1) (rc - p.1) (vints ((R.take p.2).drop p.1)) (by simp [Act.eval]) (by rw [vints_len,List.length_drop,List.length_take]; omega) (unhide Hpie) (vints_one _) (by unfold maxLen; omega) (by omega) hB2 ?_
   intro v7 W7 hown7 hgrow7
   obtain ⟨a7,c7,rfl⟩:=own_form hown7
   have hgrow7:(w.alloc (.cells #[.int .i64 (p.1:Nat),.int .i64 (p.2:Nat)] 201)).grownBy W7 (Value.slice ra R.length rc).ownBlock:=⟨hgrow7.os,hgrow7.tape,hgrow7.output,hgrow7.size,hgrow7.block⟩
   obtain ⟨hT7,hc7,hf7,hs7,hb7⟩:=unhide HFin _ W7 hown7 hgrow7
   go_simp
   refine hK.out _ _ hs7 (fun hHeld => ?_)
   clear hK K
   refine take_dst (i:=15) (dst:=some 36) (v:=?_) rfl rfl (by kernel_rfl) (by kernel_rfl) (by kernel_rfl) (fun _ _ _ h => h) (Or.inl ⟨by rfl,?_⟩) hHeld ?_
   rotate_left
   · intro w hSw; obtain ⟨k0,k1⟩:=hSw; go_simp; try (with_reducible rfl)
   simp only [Act.put,List.setIfInBounds_toArray,List.set_cons_zero,List.set_cons_succ]
   refine take_dst (i:=16) (dst:=some 37) (v:=?_) rfl rfl (by kernel_rfl) (by kernel_rfl) (by kernel_rfl) (fun _ _ _ h => h) (Or.inl ⟨by rfl,?_⟩) hHeld ?_
   rotate_left
   · intro w hSw; obtain ⟨k0,k1⟩:=hSw; go_simp; try (with_reducible rfl)
   simp only [Act.put,List.setIfInBounds_toArray,List.set_cons_zero,List.set_cons_succ]
   refine wpAnyH_ready (rs:=[17]) (by kernel_rfl) (by simp) ?_
   refine AllReadyH.cons rfl (fun K hK => ?_) AllReadyH.nil
   go_simp
   refine hK.out _ _ (unhide HS7 _ W7 hown7 hgrow7) (fun hHeld => ?_)
   clear hK K
   refine wpAnyH_done (by kernel_rfl) ?_ _
   have HT7:=hide hT7; have Hb7:=hide hb7
   clear hT7 hb7 hown7 hgrow7 hHeld hc7 hf7
   go_wp2
   refine bodyPost_ret (results_none rfl _ _ _) rfl ?_
   first | exact ⟨⟨_,rfl⟩,⟨_,unhide HT7⟩,unhide Hb7⟩ | exact ⟨⟨_,rfl⟩,_,unhide HT7,unhide Hb7⟩
end Go.Proofs.YtagohbpbgjelaaaGreatDoor

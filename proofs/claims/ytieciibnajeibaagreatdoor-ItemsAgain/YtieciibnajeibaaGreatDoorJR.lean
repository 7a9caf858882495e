import Derived.Test.YtieciibnajeibaaGreatDoorIY
import Derived.Test.YtieciibnajeibaaGreatDoorJC
set_option maxHeartbeats 8000000
set_option maxRecDepth 100000
namespace Go.Proofs.YtieciibnajeibaaGreatDoor
open Go.RowKit Go.Shelf
attribute [local go_sem] Oper.semAt_some
def zxr(R:Nat->Prop)(M:Nat)(V:World)(Z:Nat)(f:Int->Bool):Prop:=∃ O,SetN V Z O f/\∀ k,O k->R k\/M<=k
variable{Bs M cb n rx:Nat}{G:Gm}{O R:Nat->Prop}{V V' w:World}{cs:List Value}{l row':List Int}{rv:Value}
theorem zeI{Z:Nat}{f:Int->Bool}(h:zxr R M V Z f)(hf:Fr O V V')(hO:∀ k,O k->¬ zcr V k):zxr R M V' Z f:=by
 obtain⟨P,h1,h2⟩:=h;exact⟨P,zaz h1 hf (λk hk ho=>hO k ho (h1.ty k hk)),h2⟩
def zrI(R:Nat->Prop)(M:Nat)(G:Gm)(V:World)(cs:List Value)(j:Nat)(rest:List Int):Prop:=∃ Z,cs[j * 2]? = some (.pointer (some ⟨Z,0,none⟩))/\cs[j * 2+1]? = some (.bool (zar G.nk (zat G) rest))/\zxr R M V Z (zf7 G rest)
structure AbI (R:Nat->Prop) (w:World) (G:Gm) (cb rx Bs n:Nat) (rv:Value) (row':List Int) (cs:List Value) (V:World):Prop where
 cx:V.heap[w.heap.size]? = some (.cells #[.pointer (some ⟨cb,0,none⟩)] 64 (0,0))
 lx:V.heap[w.heap.size+1+1]? = some (.cells #[.slice (some ⟨w.heap.size+1,0,none⟩) n n] 240 (0,0))
 lb:V.heap[w.heap.size+1]? = some (.cells cs.toArray 182 (0,0))
 len:cs.length=n * 2
 rb:∃ Z,V.heap[rx]? = some (.cells #[.pointer (some ⟨Z,0,none⟩),.bool (zar G.nk (zat G) row')] 182 (0,0))/\zxr R w.heap.size V Z (zf7 G row')
 bk:V.heap[Bs]? = some (.cells #[rv] 50 (0,0))
 ne:w.heap.size+1+1<rx
 bl:Below w.heap.size w V
def AbJ(R:Nat->Prop)(w:World)(G:Gm)(cb rx Bs:Nat)(rv:Value)(row:List Int)(pre:List (Int × Int))(V:World):Prop:=∃ row' cs,AbI R w G cb rx Bs row.length rv row' cs V/\(pre <+: zbn row->row'=row.drop (row.length - pre.length)/\∀ j,row.length - pre.length<=j->j<row.length->zrI R w.heap.size G V cs j (row.drop (j+1)))
theorem zm6{j:Nat}{rest:List Int}(h:zrI R M G V cs j rest)(hf:Fr O V V')(hO:∀ k,O k->¬ zcr V k):zrI R M G V' cs j rest:=by
 obtain⟨Z,h1,h2,h3⟩:=h;exact⟨Z,h1,h2,zeI h3 hf hO⟩
theorem znd(h:AbI R w G cb rx Bs n rv row' cs V)(hf:Fr O V V')(hn:∀ k cs t,O k->V.heap[k]?≠some (.cells cs t (0,0)))(hb:Below w.heap.size w V'):AbI R w G cb rx Bs n rv row' cs V':=by
 have hk:∀ {k t:Nat} {cs:Array Value},V.heap[k]? = some (.cells cs t (0,0))->V'.heap[k]? = some (.cells cs t (0,0)):=fun {k t cs} hk=>(hf.2.1 k (zsO.1 hk).1 (λho=>hn _ _ _ ho hk)).trans hk;have hs:∀ k,O k->¬ zcr V k:=λk ho hi=>by obtain⟨cs,t,h5,-⟩:=hi;exact hn _ _ _ ho h5
 obtain⟨Z,h1,h2⟩:=h.rb;exact⟨hk h.cx,hk h.lx,hk h.lb,h.len,⟨Z,hk h1,zeI h2 hf hs⟩,hk h.bk,h.ne,hb⟩
theorem zxn{row:List Int}{base:Nat}(hbase:w.heap.size<=base){α:Type}(val:α->Int × Int):OwnFrom base (λ(pre:List α) V=>AbJ R w G cb rx Bs rv row (pre.map val) V):=λs X Y rw⟨row',cs,h1,h2⟩ hg hr=>by
 have hf:Fr (λk=>rw=some k) X Y:=⟨hg.size,λk hk ho=>hg.block k hk (λe=>ho e.symm),hg.os,hg.tape,hg.output⟩;have hn:∀ k cs t,rw=some k->X.heap[k]?≠some (.cells cs t (0,0)):=λk cs t ho hk=>by
  obtain⟨-,o,h4,h5⟩:=hr k ho;rw[hk] at h4
  cases h4
  simp[Obj.isCells] at h5
 have hs:∀ k,rw=some k->¬ zcr X k:=λk ho hi=>by obtain⟨cs,t,h5,-⟩:=hi;exact hn _ _ _ ho h5
 refine⟨row',cs,znd h1 hf hn (h1.bl.grown hg h1.bl.size (λj hj=>zsy hbase (hr j hj).1)),λhp=>⟨(h2 hp).1,λj hj hl=>zm6 ((h2 hp).2 j hj hl) hf hs⟩⟩
theorem zrp{p:Int × Int}(h:p ∈ zbn l):0<=p.1/\p.1<(l.length:Int)/\p.2 ∈ l:=by
 have h2:=zkG h;unfold zbn at h;rw[List.mem_reverse,List.mem_map] at h;obtain⟨i,hi,rfl⟩:=h;rw[List.mem_range] at hi;exact⟨by simp,by simp;omega,h2⟩
theorem zwf:(Tryz.prog.info? 182).map (λi=>(i.zero,i.size,i.bytes))=some (some (.agg #[.pointer none,.bool false]),2,16):=by kernel_rfl
theorem zop{α:Type}(val:α->Int × Int){pre:List α}{x:α}(h:(pre ++ [x]).map val <+: zbn l):pre.map val <+: zbn l/\pre.length<l.length/\val x=(((l.length - 1 - pre.length:Nat):Int),l.getD (l.length - 1 - pre.length) 0):=by
 obtain⟨h1,h0,-⟩:=zkF val h;rw[List.map_append] at h;refine⟨h1,h0,?_⟩;have h2:=zeV l pre.length (by omega);unfold zij at h2;have h3:(pre.map val ++ [val x])=(zbn l).take (pre.length+1):=by
  have h4:=List.prefix_iff_eq_take.1 h;simp at h4;exact h4
 have h5:pre.map val=(zbn l).take pre.length:=by
  have h4:=List.prefix_iff_eq_take.1 h1;simp at h4;exact h4
 rw[h2,<- h5] at h3;have h6:=List.append_cancel_left h3;simpa using h6
theorem zxp(h:AbI R w G cb rx Bs n rv row' cs V)(hBs:rx<Bs)(i:Nat)(u v:Value):AbI R w G cb rx Bs n rv row' ((cs.set (i * 2) u).set (i * 2+1) v) ((V.setCell ⟨w.heap.size+1,i * 2,none⟩ u).setCell ⟨w.heap.size+1,i * 2+1,none⟩ v)/\Fr (λk=>k=w.heap.size+1) V ((V.setCell ⟨w.heap.size+1,i * 2,none⟩ u).setCell ⟨w.heap.size+1,i * 2+1,none⟩ v):=by
 have hf:Fr (λk=>k=w.heap.size+1) V ((V.setCell ⟨w.heap.size+1,i * 2,none⟩ u).setCell ⟨w.heap.size+1,i * 2+1,none⟩ v):=zaD (zaD (zax (λk=>k=w.heap.size+1) V) (p:=⟨w.heap.size+1,i * 2,none⟩) rfl u) (p:=⟨w.heap.size+1,i * 2+1,none⟩) rfl v;have hk:∀ {k:Nat} {o:Obj},V.heap[k]? = some o->k≠w.heap.size+1->_:=fun {k o} hk hn=>(hf.2.1 k (zsO.1 hk).1 hn).trans hk;have hne:=h.ne;obtain⟨Z,h1,h2⟩:=h.rb;refine⟨⟨hk h.cx (by omega),hk h.lx (by omega),?_,by simpa using h.len,⟨Z,hk h1 (by omega),zeI h2 hf (λk e=>by rw[e];exact zaq h.lb (by decide) (by decide))⟩,hk h.bk (by omega),h.ne,h.bl.trans (zau hf h.bl.size (λk e=>by omega))⟩,hf⟩;have:=Wk.block_set (i:=i * 2+1) (Wk.block_set (i:=i * 2) h.lb u) v;rw[this];simp
theorem zxo{V2:World}{row2:List Int}(h:AbI R w G cb rx Bs n rv row' cs V)(hBs:rx<Bs)(hb:Below V.heap.size V V2){Z2:Nat}(h2:zxr R w.heap.size V2 Z2 (zf7 G row2)){V3:World}(hV3:V3=(V2.setCell ⟨rx,0,none⟩ (.pointer (some ⟨Z2,0,none⟩))).setCell ⟨rx,1,none⟩ (.bool (zar G.nk (zat G) row2))):AbI R w G cb rx Bs n rv row2 cs V3/\Fr (λk=>k=rx) V V3:=by
 have hne:=h.ne;have hk2:∀ {k:Nat} {o:Obj},V.heap[k]? = some o->V2.heap[k]? = some o:=fun {k o} hk=>(hb.block k (zsO.1 hk).1).trans hk;have hf3:Fr (λk=>k=rx) V2 V3:=by
  rw[hV3];exact zaD (zaD (zax (λk=>k=rx) V2) (p:=⟨rx,0,none⟩) rfl _) (p:=⟨rx,1,none⟩) rfl _
 have hf:Fr (λk=>k=rx) V V3:=zcK (zae hb) hf3;have hk:∀ {k:Nat} {o:Obj},V.heap[k]? = some o->k≠rx->V3.heap[k]? = some o:=fun {k o} hk hn=>(hf.2.1 k (zsO.1 hk).1 hn).trans hk;obtain⟨Z,h3,h4⟩:=h.rb;refine⟨⟨hk h.cx (by omega),hk h.lx (by omega),hk h.lb (by omega),h.len,⟨Z2,by rw[hV3];exact ze1 (hk2 h3),zeI h2 hf3 (λk e=>by rw[e];exact zaq (hk2 h3) (by decide) (by decide))⟩,hk h.bk (by omega),h.ne,h.bl.trans (zau hf h.bl.size (λk e=>by omega))⟩,hf⟩
theorem zjq(R:Nat->Prop)(B cb gb tb:Nat)(G:Gm)(hG:GOk G)(rr:Option Addr)(rrc:Nat)(row:List Int)(hrow:∀ x,x ∈ row->0<=x/\x<(G.nk:Int)+G.nr)(hlen:row.length<=64)(w:World)(h:ClB R B w cb gb tb G)(hrr:NRow w.heap.size w rr row) :
 Calls Tryz.prog 162 #[.pointer (some ⟨cb,0,none⟩),.slice rr row.length rrc] w λe w'=>∃ lb cs,e=.returned (.slice (some ⟨lb,0,none⟩) row.length row.length)/\w.heap.size<=lb/\w'.heap[lb]? = some (.cells cs.toArray 182 (0,0))/\cs.length=row.length * 2/\(∀ j,j<row.length->zrI R w.heap.size G w' cs j (row.drop (j+1)))/\Below w.heap.size w w':=by
 have hmk:∃ MC:List Value,MC.length=row.length * 2/\∀ w,(Instr.makeSlice 240 (.int .i64 (row.length:Int)) (.int .i64 (row.length:Int))).run Tryz.prog w=.ok (.slice (some ⟨w.heap.size,0,none⟩) row.length row.length) (w.alloc (.cells MC.toArray 182)):=by
  obtain⟨i0,hi,hz0,hz1,hz2⟩:=zah zwf;refine⟨(madeCells (Value.agg #[.pointer none,.bool false]).cells (row.length * 2)).toList,by simp[madeCells],λw=>?_⟩;have:=run_makeSlice w 240 182 i0 (.agg #[.pointer none,.bool false]) Tryz.underlying240 hi hz0 .i64 .i64 row.length row.length (by omega) (by omega) (by rw[hz1];omega) (by rw[hz2];omega) (by omega);rw[hz1] at this;simpa using this
 obtain⟨MC,hMC,hmk⟩:=hmk;refine(callsIn_wide (n:=20)).1 ?_;refine callsIn_of_wp_marks Tryz.func162 rfl trivial ?_ rfl;simp only[Tryz.ntmps162,List.size_toArray,List.length_cons,List.length_nil,Nat.reduceAdd,Nat.reduceSub,Array.replicate_succ,Array.replicate_zero,List.push_toArray,List.append_toArray,List.nil_append,List.cons_append];obtain⟨WA,hWA⟩:∃ WA,WA=(((w.alloc (.cells #[.pointer (some ⟨cb,0,none⟩)] 64)).alloc (.cells MC.toArray 182)).alloc (.cells #[.slice (some ⟨w.heap.size+1,0,none⟩) row.length row.length] 240)):=⟨_,rfl⟩;have Hrow:=zaa hrow;have Hh:=zaa h;have Hrr:=zaa hrr;clear hrow h hrr
 gi_wp2_with fail
 rw[<- hWA];refine⟨trivial,(callsIn_wide.2 (zcD none 0 [] (by simp) (λ_ h=>by simp at h) WA (.inl rfl))).mono ?_⟩;rintro e1 w1 ⟨rfl,hb1,hs1⟩;have e12:WA.heap.size=w.heap.size+1+1+1:=by rw[hWA];simp
 have hbA:Below w.heap.size w WA:=by rw[hWA];exact(((zsY _ _).alloc (zsG _) _).alloc (by simp) _).alloc (by simp;omega) _
 have a1:WA.heap[w.heap.size]? = some (.cells #[.pointer (some ⟨cb,0,none⟩)] 64 (0,0)):=by
  rw[hWA,zsZ _ _ _ (by simp;omega),zsZ _ _ _ (by simp)];exact zsH _ _
 have a2:WA.heap[w.heap.size+1]? = some (.cells MC.toArray 182 (0,0)):=by
  have:=zsH (w.alloc (.cells #[.pointer (some ⟨cb,0,none⟩)] 64)) (.cells MC.toArray 182);rw[World.size_alloc] at this;rw[hWA,zsZ _ _ _ (by simp)];exact this
 have a3:WA.heap[w.heap.size+1+1]? = some (.cells #[.slice (some ⟨w.heap.size+1,0,none⟩) row.length row.length] 240 (0,0)):=by
  have:=zsH ((w.alloc (.cells #[.pointer (some ⟨cb,0,none⟩)] 64)).alloc (.cells MC.toArray 182)) (.cells #[.slice (some ⟨w.heap.size+1,0,none⟩) row.length row.length] 240);rw[World.size_alloc,World.size_alloc] at this;rw[hWA];exact this
 clear hWA;obtain⟨W2,hW2⟩:∃ W2,W2=w1.alloc (.cells #[.pointer (some ⟨WA.heap.size,0,none⟩),.bool true] 182):=⟨_,rfl⟩;have hb2:Below w1.heap.size w1 W2:=by rw[hW2];exact(zsY _ _).alloc (zsG _) _
 have a4:W2.heap[w1.heap.size]? = some (.cells #[.pointer (some ⟨WA.heap.size,0,none⟩),.bool true] 182 (0,0)):=by rw[hW2];exact zsH _ _
 have e2:W2.heap.size=w1.heap.size+1:=by rw[hW2];simp
 have Hx:=zaa (And.intro hbA (And.intro hb1 (And.intro hb2 (And.intro a1 (And.intro a2 (And.intro a3 (And.intro a4 (And.intro hs1 (And.intro e12 e2)))))))));clear hbA hb1 hb2 a1 a2 a3 a4 hs1 e12 e2
 gi_wp2_with fail
 rw[<- hW2];clear hW2;refine⟨trivial,(callsIn_wide.2 (zf8 rr row.length rrc W2)).mono ?_⟩;rintro e2 W3 ⟨rfl,hW3⟩
 gi_wp2_with fail
 obtain⟨hbA,hb1,hb2,a1,a2,a3,a4,hs1,e12,e2⟩:=uh Hx;have hb3:Below W2.heap.size W2 W3:=by rw[hW3];exact(zsY _ _).alloc (zsG _) _
 have a5:W3.heap[W2.heap.size]? = some (.cells #[.slice rr row.length rrc] 50 (0,0)):=by rw[hW3];exact zsH _ _
 have h1s:=hb1.size;have hb12:Below w1.heap.size w1 W3:=hb2.trans (zab hb3 (by omega));have hbA3:Below WA.heap.size WA W3:=hb1.trans (zab hb12 h1s);have hbw3:Below w.heap.size w W3:=hbA.trans (zab hbA3 (by omega));have hkA:∀ {b:Nat} {o:Obj},WA.heap[b]? = some o->W3.heap[b]? = some o:=fun {b o} h=>(hbA3.block _ (zsO.1 h).1).trans h
 have hI0:AbI R w G cb w1.heap.size W2.heap.size row.length (.slice rr row.length rrc) [] MC W3 :=
  ⟨hkA a1,hkA a3,hkA a2,hMC,⟨_,(hb3.block _ (by omega)).trans a4,by
   obtain⟨O,h1,h2⟩:=hs1;rw[zud];have e9:(λ_:Int=>false)=inR []:=by funext m;simp[inR]
   rw[e9]
   exact⟨O,zbw h1 hb12,λk hk=>.inr (by have:=h2 k hk;omega)⟩⟩,a5,by omega,hbw3⟩
 have hJ0:AbJ R w G cb w1.heap.size W2.heap.size (.slice rr row.length rrc) row (([]:List {p:Int × Int // 0<=p.1/\p.1<(row.length:Int)/\0<=p.2/\p.2<(G.nk:Int)+G.nr}).map Subtype.val) W3:=⟨[],MC,hI0,λ_=>⟨by simp,λj hj hl=>by simp at hj;omega⟩⟩
 have hseq:=zkE (α:={p:Int × Int // 0<=p.1/\p.1<(row.length:Int)/\0<=p.2/\p.2<(G.nk:Int)+G.nr}) Subtype.val ((zbn row).attachWith _ (λp hp=>by
  obtain⟨h1,h2,h3⟩:=zrp hp
  exact⟨h1,h2,(uh Hrow) _ h3⟩)) Fence.wide 19 trivial rfl (by omega) W2.heap.size rr rrc (λk=>k=W2.heap.size\/k<w.heap.size) row (ziq _) (by omega) W3 (zsO.1 a5).1 (.inl rfl) (zac a5 0 rfl) (by
  rcases uh Hrr with h | ⟨b9,o9,h1,h2,h3⟩
  ·exact .inl h
  ·exact .inr ⟨b9,o9,h1,by have:=hbw3.size;omega,.inr h2,λj hj=>(hbw3.cell (p:=⟨b9,o9+j,none⟩) h2).trans (h3 j hj)⟩)
 have Hseq:=zaa hseq;have HJ0:=zaa hJ0;have hb3s:=hb3.size;have hlt12:w.heap.size+1+1+1<=w1.heap.size:=by omega
 have He2:=zaa e2;have hlt13:w.heap.size<=W3.heap.size:=by omega
 clear hseq hJ0 hI0 a1 a2 a3 a4 a5 hbA hb1 hb2 hb3 hs1 e12 e2 hb12 hbA3 hbw3 hkA Hx h1s;rw[<- hW3];clear hW3;refine wpIn_rangeFunc_ownH rfl (by omega) (gf:=226) (lb:=#[.pointer (some ⟨W2.heap.size,0,none⟩)]) rfl trivial (enters_of Tryz.func226 (by kernel_rfl) rfl) (uh Hseq) zfP zlw (zsY _ _) (λ_=>rfl)
  (λ(pre:List {p:Int × Int // 0<=p.1/\p.1<(row.length:Int)/\0<=p.2/\p.2<(G.nk:Int)+G.nr}) V=>AbJ R w G cb w1.heap.size W2.heap.size (.slice rr row.length rrc) row (pre.map Subtype.val) V)
  (λ_ _ _=>False)
  (zxn (by omega) _)
  (λc s X Y row hs hg hr=>hs)
  (uh HJ0)
  (λx a' _=>a'={ tmps:=#[.pointer (some ⟨cb,0,none⟩),.slice rr row.length rrc,.pointer (some ⟨w.heap.size,0,none⟩),undef,.slice none 0 0,.pointer (some ⟨w.heap.size+1+1,0,none⟩),.pointer (some ⟨w1.heap.size,0,none⟩),.int .i64 x.val.1,.int .i64 x.val.2,.slice rr row.length rrc,.int .i64 (row.length:Int),.slice (some ⟨w.heap.size+1,0,none⟩) row.length row.length,.pointer (some ⟨WA.heap.size,0,none⟩),.agg #[.pointer (some ⟨WA.heap.size,0,none⟩),.bool true],.slice rr row.length rrc,.func (.func 226) #[] #[.pointer (some ⟨W2.heap.size,0,none⟩)],.int .i64 x.val.1,.int .i64 x.val.2,undef,undef,undef,undef,undef,undef,undef,undef,undef],defers:=[] })
  (λ_ _ _ _ _ _ hs _ _=>hs)
  ?assign ?body ?done ?stop
 case assign =>
  rintro l0 pre x V K hi hK
  gi_wp2
  exact hK _ _ (KeepsFrom.refl _ _) (zfQ _ _) hi rfl
 case stop =>
  rintro D c pre V _ _ h;exact h.elim
 case done =>
  rintro Dd xs V hD rfl ⟨row',cs,hI,hc⟩ hKd;rw[ziq] at hc;have hbl:(zbn row).length=row.length:=zci row;obtain⟨-,hcells⟩:=hc (List.prefix_refl _);rw[hbl,Nat.sub_self] at hcells
  have Hpost:Hid (∀ o',w.heap.size<=w.heap.size+1/\(V.putObj Dd o').heap[w.heap.size+1]? = some (.cells cs.toArray 182 (0,0))/\cs.length=row.length * 2/\(∀ j,j<row.length->zrI R w.heap.size G (V.putObj Dd o') cs j (row.drop (j+1)))/\Below w.heap.size w (V.putObj Dd o')):=zaa (λo'=>by
   have hg:=grownBy_putObj' V Dd o';have hf:Fr (λq=>some Dd=some q) V (V.putObj Dd o'):=⟨hg.size,λq hq ho=>hg.block q hq (λe=>ho e.symm),hg.os,hg.tape,hg.output⟩;have hn:∀ q cs t,some Dd=some q->V.heap[q]?≠some (.cells cs t (0,0)):=λq cs t ho hq=>by
    cases ho
    rw[hKd] at hq;cases hq
   have hbV:=hI.bl.grown hg hI.bl.size (λj hj=>by cases hj;omega);have hI2:=znd hI hf hn hbV
   exact⟨by omega,hI2.lb,hI.len,λj hj=>zm6 (hcells j (zsK _) hj) hf (λk ho hi=>by obtain⟨cs,t,h5,-⟩:=hi;exact hn _ _ _ ho h5),hbV⟩)
  have c1:=zac hI.lx 0 rfl;clear hI hc hcells hbl
  gi_wp2
  refine⟨by simp,.inl ⟨_,_,rfl,run_takeDeferred hKd,?_⟩⟩;exact⟨.slice (some ⟨w.heap.size+1,0,none⟩) row.length row.length,by simp[results,Tryz.results162,go_sem],w.heap.size+1,cs,rfl,uh Hpost _⟩
 case body =>
  rintro l0 pre x a' V hl0 ⟨r,hr⟩ ⟨row',cs,hI,hc⟩ rfl hpl;obtain⟨⟨xi,xv⟩,x1,x2,x3,x4⟩:=x;simp only at x1 x2 x3 x4;obtain⟨i,rfl⟩:∃ i:Nat,xi=i:=⟨xi.toNat,by omega⟩;obtain⟨Z,hrx,O,hzs,hzO⟩:=hI.rb;have c0:=zac hI.cx 0 rfl;have c1:=zac hI.lx 0 rfl;have r0:=zac hrx 0 rfl;have r1:=zac hrx 1 rfl;have z0:=Wk.frozen_block hI.lb (i * 2);have z1:=Wk.frozen_block hI.lb (i * 2+1);have hlen2:=hI.len;have hil:i<row.length:=by omega
  obtain⟨q0v,q0⟩:∃ v,V.cell? ⟨w.heap.size+1,i * 2,none⟩=some v:=⟨_,zac hI.lb _ (by rw[List.getElem?_toArray];exact zsF (by omega))⟩;obtain⟨q1v,q1⟩:∃ v,V.cell? ⟨w.heap.size+1,i * 2+1,none⟩=some v:=⟨_,zac hI.lb _ (by rw[List.getElem?_toArray];exact zsF (by omega))⟩;have HI:=zaa hI;have Hc:=zaa hc;clear hI hc hrx
  gi_wp2_with fail
  have hBs:w1.heap.size<W2.heap.size:=by have:=uh He2;omega
  obtain⟨hI1,hf1⟩:=zxp (uh HI) hBs i (.pointer (some ⟨Z,0,none⟩)) (.bool (zar G.nk (zat G) row'));have hnl:∀ k,k=w.heap.size+1->¬ zcr V k:=λk e=>by rw[e];exact zaq (uh HI).lb (by decide) (by decide)
  have hz1:=zaz hzs hf1 (λk hk e=>hnl k e (hzs.ty k hk));obtain⟨V1,hV1⟩:∃ V1,V1=(V.setCell ⟨w.heap.size+1,i * 2,none⟩ (.pointer (some ⟨Z,0,none⟩))).setCell ⟨w.heap.size+1,i * 2+1,none⟩ (.bool (zar G.nk (zat G) row')):=⟨_,rfl⟩;rw[<- hV1] at hI1 hf1 hz1 ⊢;clear hV1;have hcl:=zgw (zbb (uh Hh) (zba hI1.bl)) (R':=λk=>R k\/(w.heap.size<=k/\zcr V1 k)) (λk hk=>.inl hk);refine⟨trivial,(CallsIn.inRound l0 (callsIn_wide.2 (zjQ _ B cb gb tb G hG xv ⟨x3,x4⟩ row' Z O V1 hcl hz1 (λk hk=>(hzO k hk).imp id (λh=>⟨h,hz1.ty k hk⟩))))).mono ?_⟩;rintro e V2 ⟨Z2,O2,rfl,hb2,hs2,hO2⟩
  have hsM:zxr R w.heap.size V2 Z2 (zf7 G (xv::row')):=⟨O2,hs2,λk hk=>by
   rcases hO2 k hk with (h | h) | h
   ·exact .inl h
   ·exact .inr h.1
   ·have:=hI1.bl.size;exact .inr (by omega)⟩
  obtain⟨V3,hV3⟩:∃ V3,V3=(V2.setCell ⟨w1.heap.size,0,none⟩ (.pointer (some ⟨Z2,0,none⟩))).setCell ⟨w1.heap.size,1,none⟩ (.bool (zar G.nk (zat G) (xv::row'))):=⟨_,rfl⟩;obtain⟨hI3,hf3⟩:=zxo hI1 hBs hb2 hsM hV3;obtain⟨Z1,hrx1,-⟩:=hI1.rb;have hrx2:=(hb2.block _ (zsO.1 hrx1).1).trans hrx1;have u0:=zac hrx2 0 rfl;have u1:=zac hrx2 1 rfl;have y0:=Wk.frozen_block hrx2 0;have y1:=Wk.frozen_block hrx2 1;have hnr:∀ k,k=w1.heap.size->¬ zcr V1 k:=λk e=>by rw[e];exact zaq hrx1 (by decide) (by decide)
  have Hout:Hid (AbJ R w G cb w1.heap.size W2.heap.size (.slice rr row.length rrc) row ((pre ++ [(⟨((i:Int),xv),x1,x2,x3,x4⟩:{p:Int × Int // 0<=p.1/\p.1<(row.length:Int)/\0<=p.2/\p.2<(G.nk:Int)+G.nr})]).map Subtype.val) V3):=zaa ⟨xv::row',_,hI3,λhp=>by
   obtain⟨h1,h2,h3⟩:=zop Subtype.val hp;simp only[Prod.mk.injEq] at h3;obtain⟨h4,h5⟩:=(uh Hc) h1;rw[List.length_map] at h4 h5;have e1:i=row.length - 1 - pre.length:=by omega
   have e2:row.length - pre.length=i+1:=by omega
   have e3:row.length - ((pre ++ [(⟨((i:Int),xv),x1,x2,x3,x4⟩:{p:Int × Int // 0<=p.1/\p.1<(row.length:Int)/\0<=p.2/\p.2<(G.nk:Int)+G.nr})]).map Subtype.val).length=i:=by simp;omega
   rw[e2] at h4 h5;rw[e3];refine⟨by rw[zqJ hil,<- h4,h3.2,<- e1],λj hj hl=>?_⟩;by_cases ej:j=i
   ·subst ej;refine⟨Z,?_,?_,?_⟩
    ·rw[List.getElem?_set_ne (by omega),List.getElem?_set_self (by omega)]
    ·rw[List.getElem?_set_self (by rw[List.length_set];omega),<- h4]
    ·rw[<- h4];exact zeI ⟨O,hz1,hzO⟩ hf3 hnr
   ·obtain⟨Zj,g1,g2,g3⟩:=h5 j (by omega) hl;refine⟨Zj,?_,?_,zeI (zeI g3 hf1 hnl) hf3 hnr⟩
    ·rw[List.getElem?_set_ne (by omega),List.getElem?_set_ne (by omega)];exact g1
    ·rw[List.getElem?_set_ne (by omega),List.getElem?_set_ne (by omega)];exact g2⟩
  have HK:Hid (KeepsFrom W3.heap.size V V3/\zdE (λk=>k=W2.heap.size\/k<w.heap.size) V V3):=zaa (by
   have hft:Fr (λk=>k=w.heap.size+1\/k=w1.heap.size) V V3:=zcK (zaj hf1 (λk _ h=>.inl h)) (zaj hf3 (λk _ h=>.inr h));obtain⟨Z0,hrx0,-⟩:=(uh HI).rb;have hlb0:=(uh HI).lb;refine⟨⟨hft.1,λk o _ ho hc=>(hft.2.1 k (zsO.1 ho).1 (λhm=>?_)).trans ho⟩,hft.1,λp v hc hv=>(zsL (hft.2.1 p.block (zsQ V p hv) (λhm=>?_))).trans hv⟩
   ·rcases hm with rfl | rfl
    ·rw[ho] at hlb0;cases hlb0;simp[Obj.isCells] at hc
    ·rw[ho] at hrx0;cases hrx0;simp[Obj.isCells] at hc
   ·rcases hc with hc | hc <;> rcases hm with hm | hm <;> omega)
  clear hI3 hf3 hI1 hf1 hz1 hcl hs2 hO2 hb2 hsM hrx1 hrx2 hzs hnl hnr z0 z1 q0 q1 r0 r1 c0 c1
  gi_wp2_with fail
  rw[<- hV3];exact⟨(uh HK).1,(uh HK).2,uh Hout⟩
end Go.Proofs.YtieciibnajeibaaGreatDoor
namespace Go.Proofs.YtieciibnajeibaaGreatDoor
open Go.RowKit
def zrB(R:Nat->Prop)(V:World)(Z:Nat)(f:Int->Bool):Prop:=∃ O,SetN V Z O f/\∀ k,O k->R k
theorem ziz{R:Nat->Prop}{w w':World}{Z:Nat}{f:Int->Bool}(h:zrB R w Z f)(hf:Fr (λk=>¬ R k) w w'):zrB R w' Z f:=by
 obtain⟨O,h1,h2⟩:=h;exact⟨O,ze5 h1 h2 hf,h2⟩
theorem zo9{R R':Nat->Prop}{w:World}{Z:Nat}{f:Int->Bool}(h:zrB R w Z f)(hR:∀ k,R k->R' k):zrB R' w Z f:=by
 obtain⟨O,h1,h2⟩:=h;exact⟨O,h1,λk hk=>hR k (h2 k hk)⟩
def zrC(R:Nat->Prop)(w:World)(G:Gm)(lb:Nat)(row:List Int):Prop:=R lb/\∃ rs:List Value,w.heap[lb]? = some (.cells rs.toArray 182 (0,0))/\rs.length=row.length * 2/\∀ j,j<row.length->∃ Z,rs[j * 2]? = some (.pointer (some ⟨Z,0,none⟩))/\rs[j * 2+1]? = some (.bool (zar G.nk (zat G) (row.drop (j+1))))/\zrB R w Z (zf7 G (row.drop (j+1)))
theorem zmg{R:Nat->Prop}{w w':World}{G:Gm}{lb:Nat}{row:List Int}(h:zrC R w G lb row)(hf:Fr (λk=>¬ R k) w w'):zrC R w' G lb row:=by
 obtain⟨h1,rs,h2,h3,h4⟩:=h;refine⟨h1,rs,zbT hf h1 h2,h3,λj hj=>?_⟩;obtain⟨Z,g1,g2,g3⟩:=h4 j hj;exact⟨Z,g1,g2,ziz g3 hf⟩
theorem zhS{R R':Nat->Prop}{w:World}{G:Gm}{lb:Nat}{row:List Int}(h:zrC R w G lb row)(hR:∀ k,R k->R' k):zrC R' w G lb row:=by
 obtain⟨h1,rs,h2,h3,h4⟩:=h;refine⟨hR _ h1,rs,h2,h3,λj hj=>?_⟩;obtain⟨Z,g1,g2,g3⟩:=h4 j hj;exact⟨Z,g1,g2,zo9 g3 hR⟩
def RsT(R:Nat->Prop)(w:World)(G:Gm)(tb:Nat):Prop:=¬ R tb/\∃ cs:List Value,w.heap[tb]? = some (.cells cs.toArray 240 (0,0))/\cs.length=G.prods.length+1/\∀ p:Nat,p<=G.prods.length->cs[p]? = some (.slice none 0 0)\/∃ lb,cs[p]? = some (.slice (some ⟨lb,0,none⟩) (zas G p).length (zas G p).length)/\zrC R w G lb (zas G p)
theorem zbC{R:Nat->Prop}{w w':World}{G:Gm}{tb:Nat}(h:RsT R w G tb)(hf:Fr (λk=>¬ R k/\k≠tb) w w'):RsT R w' G tb:=by
 obtain⟨h0,cs,h1,h2,h3⟩:=h;have hf2:Fr (λk=>¬ R k) w w':=zaj hf (λk _ h=>h.1);refine⟨h0,cs,(hf.2.1 tb (zsO.1 h1).1 (λh=>h.2 rfl)).trans h1,h2,λp hp=>?_⟩;rcases h3 p hp with h | ⟨lb,h4,h5⟩
 ·exact .inl h
 ·exact .inr ⟨lb,h4,zmg h5 hf2⟩
theorem zmf{R R':Nat->Prop}{w:World}{G:Gm}{tb:Nat}(h:RsT R w G tb)(hR:∀ k,R k->R' k)(ht:¬ R' tb):RsT R' w G tb:=by
 obtain⟨h0,cs,h1,h2,h3⟩:=h;refine⟨ht,cs,h1,h2,λp hp=>?_⟩;rcases h3 p hp with h | ⟨lb,h4,h5⟩
 ·exact .inl h
 ·exact .inr ⟨lb,h4,zhS h5 hR⟩
def zuZ(R:Nat->Prop)(B:Nat)(cb gb tb:Nat)(G:Gm)(rest:List Int)(w:World)(e:Ending)(w':World):Prop:=∃ R':Nat->Prop,∃ Z,e=.returned (.agg #[.pointer (some ⟨Z,0,none⟩),.bool (zar G.nk (zat G) rest)])/\(∀ k,R k->R' k)/\(∀ k,R' k->R k\/w.heap.size<=k)/\(∀ k,R' k->k<w'.heap.size)/\zrB R' w' Z (zf7 G rest)/\ClB R' B w' cb gb tb G/\RsT R' w' G tb/\Fr (· = tb) w w'
theorem zoo(R:Nat->Prop)(B cb gb tb:Nat)(G:Gm)(hG:GOk G)(p:Nat)(hp:p<=G.prods.length)(i:Nat)(hi:i<(zas G p).length)(w:World)(h:ClB R B w cb gb tb G)(ht:RsT R w G tb)(hRl:∀ k,R k->k<w.heap.size) :
 Calls Tryz.prog 116 #[.pointer (some ⟨cb,0,none⟩),.int .i64 (p:Int),.int .i64 (i:Int)] w λe w'=>zuZ R B cb gb tb G ((zas G p).drop (i+1)) w e w':=by
 have q241:∀ (w:World) (a:Option Addr) (n c n' c':Nat),(binOp .eql 240 (.slice a n c) (.slice none n' c')).run Tryz.prog w=.ok (.bool a.isNone) w:=λw a n c n' c'=>Lib.run_eql_slice_nil w _ _ a n c n' c' Tryz.underlying240;obtain⟨W0,hW0⟩:∃ W0,W0=w.alloc (.cells #[.pointer none,.bool false] 182):=⟨_,rfl⟩;have hb0:Below w.heap.size w W0:=by rw[hW0];exact(zsY _ _).alloc (zsG _) _
 have hbx:W0.heap[w.heap.size]? = some (.cells #[.pointer none,.bool false] 182 (0,0)):=by rw[hW0];exact zsH _ _
 have hsz:W0.heap.size=w.heap.size+1:=by rw[hW0];simp
 have htw:tb≠w.heap.size:=by
  obtain⟨_,cs0,h1,_⟩:=ht;have:=(zsO.1 h1).1;omega
 have h:=zbb h (zba hb0);have ht:RsT R W0 G tb:=zbC ht (zaj (zae (O:=λ_=>False) hb0) (λ_ _ h=>h.elim));have Hh:=zaa h;have Ht:=zaa ht;have HRl:=zaa hRl;have Hb0:=zaa hb0;obtain⟨na,nc,fa,fc,oa,oc,rc,hbox,hRc,hgm,hBw,hRB,-⟩:=h;obtain⟨htb,cs,htc,hcl,hcs⟩:=ht;have c0:=zac hbox 0 rfl;have c4:=zac hbox 4 rfl;have hpl:(p:Int)<((G.prods.length+1:Nat):Int):=by omega
 have hpl2:p<G.prods.length+1:=by omega
 have hps:=hG.ps;have hii:(i:Int)<((zas G p).length:Int):=by omega
 rcases hcs p hp with hn | ⟨lb,hs,hrow⟩
 ·have t0:=zac htc p (by rw[List.getElem?_toArray];exact hn);have htl:=(zsO.1 htc).1;have hpl3:(p:Int)<(G.prods.length:Int)+1:=by omega
  have hcbt:cb≠tb:=λe=>htb (e▸hRc)
  have HS:Hid (∀ W,Fr (λk=>k=tb) W0 W->W.cell? ⟨cb,0,none⟩=some (.pointer (some ⟨gb,0,none⟩))/\W.cell? ⟨cb,4,none⟩=some (.slice (some ⟨tb,0,none⟩) (G.prods.length+1) rc)):=zaa (λW hf=>by
   have hbx2:=(hf.2.1 cb (zsO.1 hbox).1 hcbt).trans hbox
   exact⟨zac hbx2 0 rfl,zac hbx2 4 rfl⟩)
  have Hsy:(∀ x,x ∈ zas G p->0<=x/\x<(G.nk:Int)+G.nr)/\True:=⟨λx hx=>by
   have:=zbe hG (p:=(p:Int)) (by omega) (by omega) x hx;unfold Gm.nk Gm.nr
   omega,trivial⟩
  subst hW0;go_enter Tryz.func116,Tryz.ntmps116;go_wp2_with fail;generalize w.alloc (.cells #[.pointer none,.bool false] 182)=W0 at *;refine wp_region_held_drew (S:=(λW:World=>W.cell? ⟨cb,0,none⟩=some (.pointer (some ⟨gb,0,none⟩))/\W.cell? ⟨cb,4,none⟩=some (.slice (some ⟨tb,0,none⟩) (G.prods.length+1) rc))) (by kernel_rfl) (uh HS _ (zax _ W0)) (λhZ=>?_);refine zad 0 15 rfl rfl hZ (λw ⟨k0,k1⟩=>by go_simp;try rfl) ?_;simp only[Act.put,zsA,zsB,zsC];refine zad 1 16 rfl rfl hZ (λw ⟨k0,k1⟩=>by go_simp;try rfl) ?_;simp only[Act.put,zsA,zsB,zsC];refine zad 2 17 rfl rfl hZ (λw ⟨k0,k1⟩=>by go_simp;try rfl) ?_;simp only[Act.put,zsA,zsB,zsC];refine zad 3 18 rfl rfl hZ (λw ⟨k0,k1⟩=>by go_simp;try rfl) ?_;simp only[Act.put,zsA,zsB,zsC];refine zad 4 19 rfl rfl hZ (λw ⟨k0,k1⟩=>by go_simp;try rfl) ?_;simp only[Act.put,zsA,zsB,zsC];refine zad 5 20 rfl rfl hZ (λw ⟨k0,k1⟩=>by go_simp;try rfl) ?_;simp only[Act.put,zsA,zsB,zsC];refine zad 6 21 rfl rfl hZ (λw ⟨k0,k1⟩=>by go_simp;try rfl) ?_;simp only[Act.put,zsA,zsB,zsC];refine zad 7 22 rfl rfl hZ (λw ⟨k0,k1⟩=>by go_simp;try rfl) ?_;simp only[Act.put,zsA,zsB,zsC];refine zad 8 23 rfl rfl hZ (λw ⟨k0,k1⟩=>by go_simp;try rfl) ?_;simp only[Act.put,zsA,zsB,zsC];refine zad 9 24 rfl rfl hZ (λw ⟨k0,k1⟩=>by go_simp;try rfl) ?_;simp only[Act.put,zsA,zsB,zsC];refine zad 10 25 rfl rfl hZ (λw ⟨k0,k1⟩=>by go_simp;try rfl) ?_;simp only[Act.put,zsA,zsB,zsC];refine zai 11 rfl λK hK=>?_;go_simp;refine(zjP B gb G hG p hp W0.drew (zaX (zap (zsY B W0) 1) hgm)).mono ?_;rintro e wA ⟨a,c,rfl,hnr,hca,rfl⟩;go_wp2_with fail;refine hK.out _ _ (hZ) (λhZ=>?_);clear hK K;refine zai 12 rfl λK hK=>?_;go_simp;refine(zjq R B cb gb tb G hG a c (zas G p) Hsy.1 (zcu hG (by omega) (by omega)) W0.drew (zbb (uh Hh) (zba (zap (zsY _ W0) 1))) (zfI hnr hBw)).mono ?_;rintro e W2 ⟨lb,rs,rfl,hlbM,hlb,hrl,hcell,hb2⟩;have hb2:Below W0.heap.size W0 W2:=⟨hb2.os,hb2.tape,hb2.output,hb2.size,hb2.block⟩;have htc2:=(hb2.block _ htl).trans htc;have u0:=zac htc2 p (by rw[List.getElem?_toArray];exact hn);have z0:=Wk.frozen_block htc2 p;go_wp2_with fail;refine hK.out _ _ (uh HS W2 (zae hb2)) (λhZ=>?_);clear hK K;refine zad 13 28 rfl rfl hZ (λw ⟨k0,k1⟩=>by go_simp;try rfl) ?_;simp only[Act.put,zsA,zsB,zsC];refine zai 14 rfl λK hK=>?_;go_simp;go_wp2_with fail;refine hK.out _ _ (uh HS _ (zaD (zae (O:=λk=>k=tb) hb2) (p:=⟨tb,p,none⟩) rfl _)) (λhZ=>?_);clear hK K;refine wpAnyH_done (by kernel_rfl) ?_ _;have h3:=(uh HS _ (zaD (zae (O:=λk=>k=tb) hb2) (p:=⟨tb,p,none⟩) rfl (.slice (some ⟨lb,0,none⟩) (zas G p).length (zas G p).length)));obtain⟨W3,hW3⟩:∃ W3,W3=W2.setCell ⟨tb,p,none⟩ (.slice (some ⟨lb,0,none⟩) (zas G p).length (zas G p).length):=⟨_,rfl⟩;rw[<- hW3] at h3 ⊢;obtain⟨d0,d4⟩:=h3;have hne:lb≠tb:=by have:W0.heap.size<=lb:=hlbM;omega
  have hf23:Fr (λk=>k=tb) W2 W3:=by rw[hW3];exact zaD (zax (λk=>k=tb) W2) (p:=⟨tb,p,none⟩) rfl _
  have hf03:Fr (λk=>k=tb) W0 W3:=zcK (zae hb2) hf23;have hlb3:=(hf23.2.1 lb (zsO.1 hlb).1 hne).trans hlb;have htc3:W3.heap[tb]? = some (.cells (cs.set p (.slice (some ⟨lb,0,none⟩) (zas G p).length (zas G p).length)).toArray 240 (0,0)):=by
   rw[hW3,Wk.block_set htc2];simp
  have t3:=zac htc3 p (by rw[List.getElem?_toArray];exact List.getElem?_set_self (by omega));have hbx3:=(hf03.2.1 w.heap.size (zsO.1 hbx).1 (λe=>by omega)).trans hbx;have u0:=zac hbx3 0 rfl;have u1:=zac hbx3 1 rfl;have z0:=Wk.frozen_block hbx3 0;have z1:=Wk.frozen_block hbx3 1;obtain⟨Z,g1,g2,g3⟩:=hcell i hi;have r0:=zac hlb3 (i * 2) (by rw[List.getElem?_toArray];exact g1);have r1:=zac hlb3 (i * 2+1) (by rw[List.getElem?_toArray];exact g2);have hcl03:=zbb (uh Hh) (zaj hf03 (λk _ e hR=>htb (e▸hR)))
  have Hfin:Hid (∀ WF,Fr (λk=>k=w.heap.size) W3 WF->zuZ R B cb gb tb G ((zas G p).drop (i+1)) w (.returned (.agg #[.pointer (some ⟨Z,0,none⟩),.bool (zar G.nk (zat G) ((zas G p).drop (i+1)))])) WF):=zaa (λWF hf3=>by
   have hs3:=hf23.1;have hsz2:=hb2.size;have hRF:∀ k,(R k\/(W0.heap.size<=k/\k<W3.heap.size))->¬ k=w.heap.size:=λk hk e=>by
    rcases hk with h | h
    ·have:=hRl k h;omega
    ·omega
   have hfR:Fr (λk=>¬ (R k\/(W0.heap.size<=k/\k<W3.heap.size))) W3 WF:=zaj hf3 (λk _ e hR=>hRF k hR e);have htn:¬ (R tb\/(W0.heap.size<=tb/\tb<W3.heap.size)):=λh=>by
    rcases h with h | h
    ·exact htb h
    ·omega
   have hset:∀ Zj f,zxr R W0.drew.heap.size W2 Zj f->zrB (λk=>R k\/(W0.heap.size<=k/\k<W3.heap.size)) W3 Zj f:=λZj f ⟨O,o1,o2⟩=>by
    refine⟨O,zaz o1 hf23 (λk hk e=>?_),λk hk=>?_⟩
    ·have h1:=o2 k hk;rw[e] at h1;rcases h1 with h1 | h1
     ·exact htb h1
     ·have:W0.heap.size<=tb:=h1;omega
    ·have h1:=zaO o1 hk;rcases o2 k hk with h2 | h2
     ·exact .inl h2
     ·have:W0.heap.size<=k:=h2;exact .inr (by omega)
   have hT3:RsT (λk=>R k\/(W0.heap.size<=k/\k<W3.heap.size)) W3 G tb:=by
    refine⟨htn,_,htc3,by rw[List.length_set];exact hcl,λp' hp'=>?_⟩;by_cases e:p'=p
    ·subst e;refine .inr ⟨lb,List.getElem?_set_self (by omega),.inr ⟨hlbM,by have:=(zsO.1 hlb3).1;omega⟩,rs,hlb3,hrl,λj hj=>?_⟩;obtain⟨Zj,j1,j2,j3⟩:=hcell j hj;exact⟨Zj,j1,j2,hset Zj _ j3⟩
    ·rw[List.getElem?_set_ne (λe2=>e e2.symm)];rcases hcs p' hp' with h | ⟨lb',h1,h2⟩
     ·exact .inl h
     ·exact .inr ⟨lb',h1,zhS (zmg h2 (zaj hf03 (λk _ e hR=>htb (e▸hR)))) (λk hk=>.inl hk)⟩
   refine⟨λk=>R k\/(W0.heap.size<=k/\k<W3.heap.size),Z,rfl,λk hk=>.inl hk,λk hk=>hk.imp id (λh=>by omega),λk hk=>?_,ziz (hset Z _ g3) hfR,zbb (zgw hcl03 (λk hk=>.inl hk)) hfR,zbC hT3 (zaj hf3 (λk _ e=>⟨λhR=>hRF k hR e,λe2=>htw (by omega)⟩)),?_⟩
   ·have:=hf3.1;rcases hk with h | h
    ·have:=hRl k h;omega
    ·omega
   ·refine⟨by have:=hf3.1;omega,λk hk hn=>(hf3.2.1 k (by omega) (by omega)).trans ((hf03.2.1 k (by omega) hn).trans ((uh Hb0).block k hk)),?_,?_,?_⟩
    ·exact hf3.2.2.1.trans (hf03.2.2.1.trans (uh Hb0).os)
    ·exact hf3.2.2.2.1.trans (hf03.2.2.2.1.trans (uh Hb0).tape)
    ·exact hf3.2.2.2.2.trans (hf03.2.2.2.2.trans (uh Hb0).output))
  have h2c:=ze1 (P:=.pointer (some ⟨Z,0,none⟩)) (E:=.bool (zar G.nk (zat G) ((zas G p).drop (i+1)))) hbx3;obtain⟨WF,hWF⟩:∃ WF,WF=(W3.setCell ⟨w.heap.size,0,none⟩ (.pointer (some ⟨Z,0,none⟩))).setCell ⟨w.heap.size,1,none⟩ (.bool (zar G.nk (zat G) ((zas G p).drop (i+1)))):=⟨_,rfl⟩;have f0:=zac h2c 0 rfl;have f1:=zac h2c 1 rfl;have hfF:Fr (λk=>k=w.heap.size) W3 WF:=by
   rw[hWF];exact zaD (zaD (zax (λk=>k=w.heap.size) W3) (p:=⟨w.heap.size,0,none⟩) rfl _) (p:=⟨w.heap.size,1,none⟩) rfl _
  have HP:=zaa (uh Hfin WF hfF);rw[<- hWF] at f0 f1;clear h2c hfF Hfin hcl03 hf03 hf23 hlb3 htc3 hbx3 hb2 htc2 hcell hlb hZ hW3 g3 hbx htc hcs hbox hgm HS c0 c4 t0;generalize hnn:(zas G p).length=n at *
  skip
  generalize zar G.nk (zat G) ((zas G p).drop (i+1))=em at *;clear hnn;go_wp2_with fail;rw[<- hWF];refine bodyPost_ret (v:=.agg #[.pointer (some ⟨Z,0,none⟩),.bool em]) ?zz8 rfl (uh HP)
  case zz8=>simp[results,Tryz.results116,go_sem,f0,f1]
 ·have t0:=zac htc p (by rw[List.getElem?_toArray];exact hs);have htl:=(zsO.1 htc).1;obtain⟨hRlb,rs,hlb,hrl,hrs⟩:=id hrow;obtain⟨Z,g1,g2,g3⟩:=hrs i hi;have r0:=zac hlb (i * 2) (by rw[List.getElem?_toArray];exact g1);have r1:=zac hlb (i * 2+1) (by rw[List.getElem?_toArray];exact g2)
  have Hfin:Hid (∀ W9,W9=w.alloc (.cells #[.pointer (some ⟨Z,0,none⟩),.bool (zar G.nk (zat G) ((zas G p).drop (i+1)))] 182)->(∀ k,R k->k<W9.heap.size)/\zrB R W9 Z (zf7 G ((zas G p).drop (i+1)))/\ClB R B W9 cb gb tb G/\RsT R W9 G tb/\Fr (· = tb) w W9):=zaa (λW9 hW9=>by
   have hf:Fr (λk=>k=w.heap.size) W0 W9:=by
    rw[hW0,hW9];refine⟨by simp,λk hk hn=>?_,rfl,rfl,rfl⟩;have hk2:k<w.heap.size:=by simp at hk;omega
    rw[zsZ _ _ _ hk2,zsZ _ _ _ hk2]
   have hfR:Fr (λk=>¬ R k) W0 W9:=zaj hf (λk _ e hR=>by have:=hRl k hR;omega);refine⟨λk hk=>by have:=hRl k hk;rw[hW9];simp;omega,ziz g3 hfR,zbb (uh Hh) hfR,zbC (uh Ht) (zaj hf (λk _ e=>⟨λhR=>by have:=hRl k hR;omega,λe2=>htw (by omega)⟩)),?_⟩;rw[hW9]
   exact zae ((zsY _ _).alloc (zsG _) _))
  have HF:=zaa (λW9 (h:W9=w.alloc (.cells #[.pointer (some ⟨Z,0,none⟩),.bool (zar G.nk (zat G) ((zas G p).drop (i+1)))] 182)) j {v:Value} hv=>zac (v:=v) (show W9.heap[w.heap.size]? = some (.cells #[.pointer (some ⟨Z,0,none⟩),.bool (zar G.nk (zat G) ((zas G p).drop (i+1)))] 182 (0,0)) by rw[h];exact zsH _ _) j hv);clear hlb hrs hrow g1 g2 g3 htc hcs hbox hgm hRB;generalize hnn:(zas G p).length=n at *;generalize hee:(zas G p).drop (i+1)=rest at *;generalize hem:zar G.nk (zat G) rest=em at *;have Hem:=zaa hem;clear hnn hee hem;subst hW0;go_enter Tryz.func116,Tryz.ntmps116;go_wp2_with fail;obtain⟨W9,hW9⟩:∃ W9,W9=w.alloc (.cells #[.pointer (some ⟨Z,0,none⟩),.bool em] 182):=⟨_,rfl⟩;rw[<- hW9];have f0:=uh HF W9 hW9 0 rfl;have f1:=uh HF W9 hW9 1 rfl;obtain⟨p1,p2,p3,p4,p5⟩:=uh Hfin W9 hW9;refine bodyPost_ret (v:=.agg #[.pointer (some ⟨Z,0,none⟩),.bool em]) ?zz9 rfl ⟨R,Z,by rw[uh Hem],λ_ h=>h,λ_ h=>.inl h,p1,p2,p3,p4,p5⟩
  case zz9=>simp[results,Tryz.results116,go_sem,f0,f1]
open Go.Maps
def zfy:Value->Option (DataW Unit × List MemPlace)
 | .pointer none=>some (.lit (.int .i64 (-1)),[])
 | .pointer (some ⟨Z,0,none⟩)=>some (.lit (.int .i64 (Z:Int)),[])
 | _=>none
theorem zsg{v:Value}{x:Int}{ps:List MemPlace}(h:zfy v=some (.lit (.int .i64 x),ps)):(x = -1/\v=.pointer none)\/∃ Z:Nat,x=Z/\v=.pointer (some ⟨Z,0,none⟩):=by
 unfold zfy at h
 split at h
 ·simp only[Option.some.injEq,Prod.mk.injEq,DataW.lit.injEq,Lit.int.injEq,true_and] at h;exact .inl ⟨h.1.symm,rfl⟩
 ·rename_i Z;simp only[Option.some.injEq,Prod.mk.injEq,DataW.lit.injEq,Lit.int.injEq,true_and] at h;exact .inr ⟨Z,h.1.symm,rfl⟩
 ·cases h
def zuy(A:Option Nat):Int:=match A with | none => -1 | some Z=>(Z:Int)
def zkQ(A:Option Nat):Value:=match A with | none=>.pointer none | some Z=>.pointer (some ⟨Z,0,none⟩)
theorem zuw{v : Value}{A : Option Nat}{ps : List MemPlace}(h : zfy v = some (.lit (.int .i64 (zuy A)), ps)) : v = zkQ A := by
  rcases zsg h with ⟨h1,rfl⟩ | ⟨Z,h1,rfl⟩
  · cases A with
    | none=>rfl
    | some Y=>simp only[zuy] at h1;omega
  · cases A with
    | none=>simp only[zuy] at h1;omega
    | some Y => simp only [zuy] at h1; obtain rfl : Y = Z := by omega
                rfl
theorem zvq(Z:Nat):zfy (.pointer (some ⟨Z,0,none⟩))=some (.lit (.int .i64 (Z:Int)),[]):=rfl
theorem zu1(w:World):(zeroValue 110).run Tryz.prog w=.ok (.pointer none) w:=by kernel_rfl
def PtM(w:World)(b n:Nat)(A:Nat->Option Nat):Prop:=∃ D:DataW Unit,w.ownsMap Tryz.prog 3 zfy b n D/\(∀ q:Nat,D.atKey (ki q) (.lit (.int .i64 (-1)))=.lit (.int .i64 (zuy (A q))))/\∀ kl,Maps.has D kl=true->∃ q:Nat,kl=ki q/\A q≠none
theorem zc7{w:World}{b n:Nat}{A:Nat->Option Nat}(h:PtM w b n A):b<w.heap.size:=by obtain⟨D,h,-⟩:=h;exact h.lt
theorem zdJ{w w':World}{b n:Nat}{A:Nat->Option Nat}(h:PtM w b n A)(e:w'.heap[b]? = w.heap[b]?):PtM w' b n A:=by
  obtain⟨D,⟨es,c,hh,rr⟩,h2⟩:=h;exact⟨D,⟨es,c,e.trans hh,rr⟩,h2⟩
theorem zca{w:World}{b n:Nat}{A:Nat->Option Nat}(h:PtM w b n A){cs:Array Value}{t:TypeId}{f:Nat × Nat}:w.heap[b]?≠some (.cells cs t f):=by
  obtain⟨D,⟨es,c,hh,rr⟩,h2⟩:=h;rw[hh];intro e;cases e
theorem ze7{w:World}{b n:Nat}{A:Nat->Option Nat}(h:PtM w b n A)(q:Nat)(hq:q<=1048576):(Instr.lookup 174 (.map (some b)) (.int .i64 (q:Int)) false).run Tryz.prog w=.ok (zkQ (A q)) w:=by
  obtain⟨D,h1,h2,-⟩:=h;have hwf:(Lit.int .i64 (q:Int)).wf=true:=WalkArith.wf_i64 (by omega);obtain⟨v,ps,hrun,hv⟩:=h1.lookup zke Tryz.underlying174 (zu1 w) (show zfy (.pointer none)=some (.lit (.int .i64 (-1)),[]) from rfl) (keyOf_int_mk Tryz.underlying3 hwf);rw[hrun];have:=h2 q;rw[show D.atKey (Lit.int .i64 (q:Int)) (.lit (.int .i64 (-1)))=_ from this] at hv;rw[zuw hv]
theorem zvs{w:World}{b n:Nat}{A:Nat->Option Nat}(h:PtM w b n A)(hn:n<maxLen)(q:Nat)(hq:q<=1048576)(Z:Nat):∃ w',(Instr.mapUpdate 174 (.map (some b)) (.int .i64 (q:Int)) (.pointer (some ⟨Z,0,none⟩))).run Tryz.prog w=.ok () w'/\PtM w' b (n+1) (λr=>if r=q then some Z else A r)/\w.grownBy w' (some b):=by
  obtain⟨D,h1,h2,h3⟩:=h;have hwf:(Lit.int .i64 (q:Int)).wf=true:=WalkArith.wf_i64 (by omega);obtain⟨w',hrun,hown,hg⟩:=h1.update zke Tryz.underlying174 hn (keyOf_int_mk Tryz.underlying3 hwf) (zvq Z);refine⟨w',hrun,⟨_,hown,λr=>?_,λkl hkl=>?_⟩,hg⟩
  · show _=DataW.lit (.int .i64 (zuy (if r=q then some Z else A r)));by_cases e:r=q
    · subst e;rw[if_pos rfl];exact atKey_put_same h1.isMap (show WideAt.IsKeyLit (ki r) from trivial) _ _
    · rw[if_neg e];exact(atKey_put_other (λe'=>by simp at e';omega) _ _).trans (h2 r)
  · by_cases e:kl=ki q
    · exact⟨q,e,by simp⟩
    · rw[has_put_other e] at hkl;obtain⟨r,e1,e2⟩:=h3 kl hkl;have e3:r≠q:=λe3=>e (by rw[e1,e3]);exact⟨r,e1,by simp only[if_neg e3];exact e2⟩
theorem zvt(w:World):PtM (w.alloc (.map #[] 0)) w.heap.size 0 (λ_=>none):=⟨.map [],World.ownsMap_made _ _ _ _,λ_=>rfl,λkl h=>by simp[Maps.has] at h⟩
def kF(M:Nat->Nat->Bool)(q:Nat):Int->Bool:=λm=>decide (0<=m) && M q m.toNat
def hF(H:Nat->Bool):Nat->Option Int:=λr=>if H r then some 0 else none
theorem zuD{M:Nat->Nat->Bool}{r:Nat}{S:Nat->Bool}{f:Int->Bool}(hf:∀ m,f m=(decide (0<=m) && S m.toNat)):orF (kF M r) f=kF (zce M r S) r:=by
  funext m;show (kF M r m || f m)=_;rw[hf];unfold kF zce;rw[decide_eq_true rfl,Bool.true_and]
  cases decide (0<=m) <;> simp
theorem zwc{M:Nat->Nat->Bool}{r q:Nat}{S:Nat->Bool}(h:q≠r):kF (zce M r S) q=kF M q:=by
  funext m;unfold kF zce;rw[decide_eq_false h,Bool.false_and,Bool.or_false]
theorem zwn(H:Nat->Bool)(r:Nat):zjR (hF H) r 0=hF (upd H r):=by
  funext j;unfold zjR upH hF upd;by_cases e:j=r
  · subst e;rw[if_pos rfl,if_pos rfl]
    cases H j <;> simp
  · rw[if_neg e,if_neg e]
theorem zgY{w w':World}{B:Nat}{O O':Nat->Prop}{H:Nat->Option Int}(h:zor w B O H)(hf:Fr O' w w')(hd:∀ k,O k->¬ O' k):zor w' B O H:=by
  obtain⟨ts,h1,h2,h3⟩:=h;exact⟨ts,Wk.lst_off h1 (zj1 hf) hd,h2,h3⟩
theorem zgX{w:World}{B:Nat}{O:Nat->Prop}{H:Nat->Option Int}(h:zor w B O H){k:Nat}(hk:O k):k<w.heap.size:=by
  obtain⟨ts,h1,h2,h3⟩:=h;exact h1.lt k hk
structure ClS (R:Nat->Prop) (B cb gb tb sb mb lb:Nat) (G:Gm) (P:Nat->Bool) (A:Nat->Nat) (OO:Nat->Nat->Prop) (LO:Nat->Prop) (n:Nat) (M:Nat->Nat->Bool) (H:Nat->Bool) (cnt:Nat) (w:World):Prop where
  box:w.heap[sb]? = some (.cells #[.pointer (some ⟨cb,0,none⟩),.map (some mb),.pointer (some ⟨lb,0,none⟩),.int .i64 (cnt:Int)] 178 (0,0))
  cl:ClB R B w cb gb tb G
  rt:RsT R w G tb
  rl:∀ k,R k->k<w.heap.size
  mp:PtM w mb n (λq=>if P q then some (A q) else none)
  nle:n+zkR P 2048<=2048
  set:∀ q,P q=true->SetN w (A q) (OO q) (kF M q)
  non:∀ q,P q=false->∀ k,M q k=false
  out:∀ q,P q=true->∀ k,OO q k->¬ R k/\¬ LO k
  ap:∀ q q',P q=true->P q'=true->q≠q'->∀ k,OO q k->¬ OO q' k
  ls:zor w lb LO (hF H)
  lo:∀ k,LO k->¬ R k/\k≠sb/\k≠tb/\k≠mb
  nR:¬ R sb/\¬ R mb
  pn:∀ q,P q=true->q<G.nr
section
variable {R:Nat->Prop} {B cb gb tb sb mb lb:Nat} {G:Gm} {P:Nat->Bool} {A:Nat->Nat} {OO:Nat->Nat->Prop} {LO:Nat->Prop} {n:Nat} {M:Nat->Nat->Bool} {H:Nat->Bool} {cnt:Nat} {w w':World}
theorem zdu(h:ClS R B cb gb tb sb mb lb G P A OO LO n M H cnt w):sb≠mb/\tb≠mb/\sb≠tb/\¬ R tb/\∀ q,P q=true->∀ k,OO q k->k≠sb/\k≠tb/\k≠mb:=by
  obtain⟨htn,cs,htc,-⟩:=h.rt;refine⟨λe=>zca h.mp (e▸h.box),λe=>zca h.mp (e▸htc),λe=>?_,htn,λq hq k hk=>⟨λe=>?_,λe=>?_,λe=>?_⟩⟩
  · have:=h.box;rw[e,htc] at this;cases this
  · have:=(h.set q hq).ty k hk;rw[e] at this;exact zaq h.box (by decide) (by decide) this
  · have:=(h.set q hq).ty k hk;rw[e] at this;exact zaq htc (by decide) (by decide) this
  · obtain⟨cs,t,h1,-⟩:=(h.set q hq).ty k hk;rw[e] at h1;exact zca h.mp h1
theorem zuQ(h:ClS R B cb gb tb sb mb lb G P A OO LO n M H cnt w){O:Nat->Prop}(hf:Fr O w w')(hO:∀ k,O k->¬ R k/\k≠sb/\k≠tb/\k≠mb/\¬ LO k/\∀ q,P q=true->¬ OO q k):ClS R B cb gb tb sb mb lb G P A OO LO n M H cnt w':=by
  have hfR:Fr (λk=>¬ R k) w w':=zaj hf (λk _ h=>(hO k h).1);have hk:∀ {k:Nat} {o:Obj},w.heap[k]? = some o->¬ O k->w'.heap[k]? = some o:=fun {k o} hk hn=>(hf.2.1 k (zsO.1 hk).1 hn).trans hk
  exact⟨hk h.box (λho=>(hO _ ho).2.1 rfl),zbb h.cl hfR,zbC h.rt (zaj hf (λk _ h=>⟨(hO k h).1,(hO k h).2.2.1⟩)),λk hR=>zsJ (h.rl k hR) hf.1,
    zdJ h.mp (hf.2.1 mb (zc7 h.mp) (λho=>(hO _ ho).2.2.2.1 rfl)),h.nle,λq hq=>zaz (h.set q hq) hf (λk hk ho=>(hO k ho).2.2.2.2.2 q hq hk),h.non,h.out,h.ap,zgY h.ls hf (λk hk ho=>(hO k ho).2.2.2.2.1 hk),h.lo,h.nR,h.pn⟩
theorem zbs(h:ClS R B cb gb tb sb mb lb G P A OO LO n M H cnt w)(hb:Below w.heap.size w w'):ClS R B cb gb tb sb mb lb G P A OO LO n M H cnt w':=zuQ h (zae (O:=λ_=>False) hb) (λ_ h=>h.elim)
theorem zwR(h:ClS R B cb gb tb sb mb lb G P A OO LO n M H cnt w){r:Nat}(hr:P r=false)(hr2:r<2048)(hrn:r<G.nr){w1 w2:World}(hb:Below w.heap.size w w1){Z:Nat}{O:Nat->Prop}(hz:SetN w1 Z O (λ_=>false))(hO:∀ k,O k->w.heap.size<=k)
    (hm:PtM w2 mb (n+1) (λq=>if q=r then some Z else if P q then some (A q) else none)) (hg:w1.grownBy w2 (some mb)) :
    ClS R B cb gb tb sb mb lb G (upd P r) (λq=>if q=r then Z else A q) (λq=>if q=r then O else OO q) LO (n+1) M H cnt w2:=by
  have h1:=zbs h hb;obtain⟨i1,i2,i3,i4,i5⟩:=zdu h1;have hf:Fr (λk=>k=mb) w1 w2:=⟨hg.size,λk hk ho=>hg.block k hk (λe=>ho (by cases e;rfl)),hg.os,hg.tape,hg.output⟩;have hfR:Fr (λk=>¬ R k) w1 w2:=zaj hf (λk _ e hR=>h.nR.2 (e▸hR));have hne:∀ {q},(upd P r) q=true->q≠r->P q=true:=fun {q} hq e=>(zkX hq).resolve_left e;have hmw:=zc7 h.mp
  refine⟨(hf.2.1 sb (zsO.1 h1.box).1 i1).trans h1.box,zbb h1.cl hfR,zbC h1.rt (zaj hf (λk _ e=>⟨λhR=>h.nR.2 (e▸hR),λe2=>i2 (e2.symm.trans e)⟩)),λk hR=>zsJ (h1.rl k hR) hf.1,?_,?_,λq hq=>?_,λq hq=>?_,λq hq k hk=>?_,λq q' hq hq' hqq k hk hk'=>?_,zgY h1.ls hf (λk hk e=>(h.lo k hk).2.2.2 e),h.lo,h.nR,λq hq=>(by
    by_cases e:q=r
    · rw[e];exact hrn
    · exact h.pn q (hne hq e))⟩
  · have e9:(λq=>if upd P r q then some (if q=r then Z else A q) else none)=(λq=>if q=r then some Z else if P q then some (A q) else none):=by
      funext q;by_cases e:q=r
      · subst e;rw[zgg];simp
      · rw[if_neg e,if_neg e];have:upd P r q=P q:=by unfold upd;rw[if_neg e]
        rw[this]
    rw[e9];exact hm
  · have:=ztV hr2 hr;have:=h.nle;omega
  · by_cases e:q=r
    · subst e;rw[if_pos rfl,if_pos rfl];have:kF M q=λ_=>false:=by funext m;unfold kF;rw[h.non q hr,Bool.and_false]
      rw[this];exact zaz hz hf (λk hk e=>by have:=hO k hk;omega)
    · rw[if_neg e,if_neg e];exact zaz (h1.set q (hne hq e)) hf (λk hk e2=>(i5 q (hne hq e) k hk).2.2 e2)
  · refine h.non q ?_;unfold upd at hq
    split at hq
    · cases hq
    · exact hq
  · by_cases e:q=r
    · rw[if_pos e] at hk;have:=hO k hk;exact⟨λhR=>by have:=h.rl k hR;omega,λhL=>by have:=zgX h.ls hL;omega⟩
    · rw[if_neg e] at hk;exact h.out q (hne hq e) k hk
  · by_cases e:q=r
    · rw[if_pos e] at hk;rw[if_neg (λe2=>hqq (e.trans e2.symm))] at hk';have:=zaO (h.set q' (hne hq' (λe2=>hqq (e.trans e2.symm)))) hk';have:=hO k hk;omega
    · rw[if_neg e] at hk;by_cases e2:q'=r
      · rw[if_pos e2] at hk';have:=zaO (h.set q (hne hq e)) hk;have:=hO k hk';omega
      · rw[if_neg e2] at hk';exact h.ap q q' (hne hq e) (hne hq' e2) hqq k hk hk'
theorem clS_bh(h:ClS R B cb gb tb sb mb lb G P A OO LO n M H cnt w){R':Nat->Prop}(h1:∀ k,R' k->R k\/w.heap.size<=k)(h2:∀ k,R' k->k<w'.heap.size)(hc:ClB R' B w' cb gb tb G)(ht:RsT R' w' G tb)(hf:Fr (· = tb) w w'):ClS R' B cb gb tb sb mb lb G P A OO LO n M H cnt w':=by
  obtain⟨i1,i2,i3,i4,i5⟩:=zdu h;have hbl:=(zsO.1 h.box).1;have hml:=zc7 h.mp
  exact⟨(hf.2.1 sb hbl i3).trans h.box,hc,ht,h2,zdJ h.mp (hf.2.1 mb hml (λe=>i2 e.symm)),h.nle,λq hq=>zaz (h.set q hq) hf (λk hk e=>(i5 q hq k hk).2.1 e),h.non,
    λq hq k hk=>⟨λhR=>(h1 k hR).elim (h.out q hq k hk).1 (λh9=>by have:=zaO (h.set q hq) hk;omega),(h.out q hq k hk).2⟩,h.ap,zgY h.ls hf (λk hk e=>(h.lo k hk).2.2.1 e),
    λk hk=>⟨λhR=>(h1 k hR).elim (h.lo k hk).1 (λh9=>by have:=zgX h.ls hk;omega),(h.lo k hk).2⟩,⟨λhR=>(h1 _ hR).elim h.nR.1 (λh9=>by omega),λhR=>(h1 _ hR).elim h.nR.2 (λh9=>by omega)⟩,h.pn⟩
theorem zm2(h:ClS R B cb gb tb sb mb lb G P A OO LO n M H cnt w){r:Nat}(hr:P r=true)(hf:Fr (OO r) w w'){f:Int->Bool}{S:Nat->Bool}(hfS:∀ m,f m=(decide (0<=m) && S m.toNat)){O2:Nat->Prop}(h2:SetN w' (A r) O2 (orF (kF M r) f))(hO2:∀ k,O2 k->OO r k\/w.heap.size<=k) :
    ClS R B cb gb tb sb mb lb G P A (λq=>if q=r then O2 else OO q) LO n (zce M r S) H cnt w':=by
  obtain⟨i1,i2,i3,i4,i5⟩:=zdu h;have hbl:=(zsO.1 h.box).1;have hml:=zc7 h.mp;have hfR:Fr (λk=>¬ R k) w w':=zaj hf (λk _ ho hR=>(h.out r hr k ho).1 hR);refine⟨(hf.2.1 sb hbl (λho=>(i5 r hr _ ho).1 rfl)).trans h.box,zbb h.cl hfR,zbC h.rt (zaj hf (λk _ ho=>⟨(h.out r hr k ho).1,(i5 r hr k ho).2.1⟩)),λk hR=>zsJ (h.rl k hR) hf.1,zdJ h.mp (hf.2.1 mb hml (λho=>(i5 r hr _ ho).2.2 rfl)),h.nle,λq hq=>?_,λq hq k=>?_,λq hq k hk=>?_,λq q' hq hq' hqq k hk hk'=>?_,zgY h.ls hf (λk hk ho=>(h.out r hr k ho).2 hk),h.lo,h.nR,h.pn⟩
  · by_cases e:q=r
    · subst e;rw[if_pos rfl,<- zuD hfS];exact h2
    · rw[if_neg e,zwc e];exact zaz (h.set q hq) hf (λk hk ho=>h.ap q r hq hr e k hk ho)
  · have e:q≠r:=λe=>by rw[e,hr] at hq;cases hq
    unfold zce;rw[h.non q hq k,decide_eq_false e,Bool.false_and,Bool.false_or]
  · by_cases e:q=r
    · rw[if_pos e] at hk;rcases hO2 k hk with h3 | h3
      · exact h.out r hr k h3
      · exact⟨λhR=>by have:=h.rl k hR;omega,λhL=>by have:=zgX h.ls hL;omega⟩
    · rw[if_neg e] at hk;exact h.out q hq k hk
  · by_cases e:q=r
    · rw[if_pos e] at hk;rw[if_neg (λe2=>hqq (e.trans e2.symm))] at hk';rcases hO2 k hk with h3 | h3
      · exact h.ap r q' hr hq' (λe2=>hqq (e.trans e2)) k h3 hk'
      · have:=zaO (h.set q' hq') hk';omega
    · rw[if_neg e] at hk;by_cases e2:q'=r
      · rw[if_pos e2] at hk';rcases hO2 k hk' with h3 | h3
        · exact h.ap q r hq hr e k hk h3
        · have:=zaO (h.set q hq) hk;omega
      · rw[if_neg e2] at hk';exact h.ap q q' hq hq' hqq k hk hk'
theorem zwS(h:ClS R B cb gb tb sb mb lb G P A OO LO n M H cnt w)(c:Nat):ClS R B cb gb tb sb mb lb G P A OO LO n M H c (w.setCell ⟨sb,3,none⟩ (.int .i64 (c:Int))):=by
  obtain⟨i1,i2,i3,i4,i5⟩:=zdu h;have hf:Fr (λk=>k=sb) w (w.setCell ⟨sb,3,none⟩ (.int .i64 (c:Int))):=zaD (zax (λk=>k=sb) w) (p:=⟨sb,3,none⟩) rfl _;have hfR:Fr (λk=>¬ R k) w (w.setCell ⟨sb,3,none⟩ (.int .i64 (c:Int))):=zaj hf (λk _ e hR=>h.nR.1 (e▸hR));refine⟨?_,zbb h.cl hfR,zbC h.rt (zaj hf (λk _ e=>⟨λhR=>h.nR.1 (e▸hR),λe2=>i3 (e.symm.trans e2)⟩)),λk hR=>zsJ (h.rl k hR) hf.1,zdJ h.mp (hf.2.1 mb (zc7 h.mp) (λe=>i1 e.symm)),h.nle,λq hq=>zaz (h.set q hq) hf (λk hk e=>(i5 q hq k hk).1 e),h.non,h.out,h.ap,zgY h.ls hf (λk hk e=>(h.lo k hk).2.1 e),h.lo,h.nR,h.pn⟩;rw[Wk.block_set h.box];rfl
theorem zt5(h:ClS R B cb gb tb sb mb lb G P A OO LO n M H cnt w){r:Nat}(hf:Fr LO w w'){LO':Nat->Prop}(hl:zor w' lb LO' (zjR (hF H) r 0))(hO:∀ k,LO' k->LO k\/w.heap.size<=k):ClS R B cb gb tb sb mb lb G P A OO LO' n M (upd H r) cnt w':=by
  obtain⟨i1,i2,i3,i4,i5⟩:=zdu h;have hbl:=(zsO.1 h.box).1;have hml:=zc7 h.mp;have htl:tb<w.heap.size:=by obtain⟨_,cs,htc,-⟩:=h.rt;exact(zsO.1 htc).1
  have hfR:Fr (λk=>¬ R k) w w':=zaj hf (λk _ ho hR=>(h.lo k ho).1 hR);refine⟨(hf.2.1 sb hbl (λho=>(h.lo _ ho).2.1 rfl)).trans h.box,zbb h.cl hfR,zbC h.rt (zaj hf (λk _ ho=>⟨(h.lo k ho).1,(h.lo k ho).2.2.1⟩)),λk hR=>zsJ (h.rl k hR) hf.1,zdJ h.mp (hf.2.1 mb hml (λho=>(h.lo _ ho).2.2.2 rfl)),h.nle,λq hq=>zaz (h.set q hq) hf (λk hk ho=>(h.out q hq k hk).2 ho),h.non,λq hq k hk=>⟨(h.out q hq k hk).1,λhL=>?_⟩,h.ap,by rw[<- zwn];exact hl,λk hk=>?_,h.nR,h.pn⟩
  · rcases hO k hL with h3 | h3
    · exact(h.out q hq k hk).2 h3
    · have:=zaO (h.set q hq) hk;omega
  · rcases hO k hk with h3 | h3
    · exact h.lo k h3
    · exact⟨λhR=>by have:=h.rl k hR;omega,by omega,by omega,by omega⟩
end
structure StF (B0 sb mb:Nat) (P:Nat->Bool) (OO:Nat->Nat->Prop) (LO:Nat->Prop):Prop where
  sb:B0<=sb
  mb:B0<=mb
  oo:∀ q,P q=true->∀ k,OO q k->B0<=k
  lo:∀ k,LO k->B0<=k
def zuY(P:Nat->Bool)(A:Nat->Nat)(OO:Nat->Nat->Prop)(M:Nat->Nat->Bool)(w:World)(Z:Nat)(L:Nat->Bool):Prop :=
  (∃ O,SetN w Z O (gF L)/\∀ q,P q=true->∀ k,O k->¬ OO q k)\/∃ r0,P r0=true/\Z=A r0/\L=M r0
theorem zh3{P:Nat->Bool}{A:Nat->Nat}{OO:Nat->Nat->Prop}{M:Nat->Nat->Bool}{w w':World}{Z:Nat}{L:Nat->Bool}(h:zuY P A OO M w Z L)(hb:Below w.heap.size w w'):zuY P A OO M w' Z L:=by
  rcases h with ⟨O,h1,h2⟩ | h
  · exact .inl ⟨O,zaz h1 (zae (O:=λ_=>False) hb) (λ_ _ h=>h),h2⟩
  · exact .inr h
theorem zti{P:Nat->Bool}{A:Nat->Nat}{OO:Nat->Nat->Prop}{M:Nat->Nat->Bool}{w w':World}{tb Z:Nat}{L:Nat->Bool}(h:zuY P A OO M w Z L)(hb:Fr (λk=>k=tb) w w')(ht:∀ O f,SetN w Z O f->¬ O tb):zuY P A OO M w' Z L:=by
  rcases h with ⟨O,h1,h2⟩ | h
  · exact .inl ⟨O,zaz h1 hb (λk hk e=>ht O _ h1 (e▸hk)),h2⟩
  · exact .inr h
def zhu(R:Nat->Prop)(B0 B cb gb tb sb mb lb:Nat)(G:Gm)(P:Nat->Bool)(A:Nat->Nat)(M:Nat->Nat->Bool)(H:Nat->Bool)(w:World)(o:Option Nat)(S:Nat->Bool)(e:Ending)(w':World):Prop :=
  e=.returned (.tuple #[])/\Fr (λk=>k=tb\/(B0<=k/\¬ R k)) w w'/\∃ (R':Nat->Prop) (P':Nat->Bool) (A':Nat->Nat) (OO':Nat->Nat->Prop) (LO':Nat->Prop) (n':Nat) (M':Nat->Nat->Bool) (H':Nat->Bool),
    ClS R' B cb gb tb sb mb lb G P' A' OO' LO' n' M' H' (zeo G (ctW M') G.prods.length) w'/\StF B0 sb mb P' OO' LO'/\(∀ k,R k->R' k)/\(∀ k,R' k->R k\/w.heap.size<=k)/\(∀ q,P q=true->P' q=true/\A' q=A q) /\
    match o with
    | none=>M'=M/\H'=H
    | some r=>M'=zce M r S/\P' r=true/\(∀ q,q≠r->H' q=H q)/\((H' r=true/\∃ k,S k=true/\M r k=false)\/(H' r=H r/\∀ k,S k=true->M r k=true))
theorem zuN(M:Nat->Nat->Bool)(q:Nat):Wk.cnt 1048576 (kF M q)=ctW M q:=rfl
theorem zmJ{M:Nat->Nat->Bool}{r m1:Nat}{S1:Nat->Bool}{f:Int->Bool}(hf:∀ m,f m=(decide (0<=m) && S1 m.toNat))(hm:ctW (zce M r S1) r=ctW M r+m1):Ending.returned (.int .i64 ((Wk.cnt 1048576 (orF (kF M r) f):Nat) - (Wk.cnt 1048576 (kF M r):Nat):Int))=Ending.returned (.int .i64 (m1:Int)):=by
  rw[zuD hf,zuN,zuN,hm];generalize ctW M r=c;rw[show ((c+m1:Nat):Int) - (c:Int)=(m1:Int) by omega]
def LkR(A:Nat->Nat)(OO:Nat->Nat->Prop)(M:Nat->Nat->Bool)(r:Nat)(w:World)(Z:Nat)(L:Nat->Bool):Prop :=
  (∃ O,SetN w Z O (gF L)/\∀ k,O k->¬ OO r k)\/(Z=A r/\L=M r)
theorem lkR_of{R:Nat->Prop}{B cb gb tb sb mb lb:Nat}{G:Gm}{P:Nat->Bool}{A:Nat->Nat}{OO:Nat->Nat->Prop}{LO:Nat->Prop}{n:Nat}{M:Nat->Nat->Bool}{H:Nat->Bool}{cnt:Nat}{w:World}(h:ClS R B cb gb tb sb mb lb G P A OO LO n M H cnt w){Z:Nat}{L:Nat->Bool}(hz:zuY P A OO M w Z L){r:Nat}(hr:P r=true):LkR A OO M r w Z L:=by
  rcases hz with ⟨O,h1,h2⟩ | ⟨r0,h1,h2,h3⟩
  · exact .inl ⟨O,h1,h2 r hr⟩
  · by_cases e:r0=r
    · subst e;exact .inr ⟨h2,h3⟩
    · subst h2 h3;exact .inl ⟨OO r0,h.set r0 h1,λk hk hk'=>h.ap r0 r h1 hr e k hk hk'⟩
theorem zuC{R:Nat->Prop}{B cb gb tb sb mb lb:Nat}{G:Gm}{P:Nat->Bool}{A:Nat->Nat}{OO:Nat->Nat->Prop}{LO:Nat->Prop}{n:Nat}{M:Nat->Nat->Bool}{H:Nat->Bool}{cnt:Nat}{w W W2 V:World}(h:ClS R B cb gb tb sb mb lb G P A OO LO n M H cnt w)(hbW:Below w.heap.size w W)
    {R2:Nat->Prop} {Z2 b9:Nat} {f:Int->Bool} (q2:∀ k,R2 k->R k\/W.heap.size<=k) (q3:∀ k,R2 k->k<W2.heap.size) (q4:zrB R2 W2 Z2 f) (q5:ClB R2 B W2 cb gb tb G) (q6:RsT R2 W2 G tb) (q7:Fr (· = tb) W W2)
    (hb9:w.heap.size<=b9) (hor:b9<W.heap.size\/W2.heap.size<=b9) (hV:Fr (λk=>k=b9) W2 V):zrB R2 V Z2 f/\(∀ k,R2 k->R k\/w.heap.size<=k)/\¬ R2 b9/\ClS R2 B cb gb tb sb mb lb G P A OO LO n M H cnt V/\Fr (λk=>k=tb) w V:=by
  have hs:=hbW.size;have hn9:¬ R2 b9:=λhR=>by
    rcases q2 _ hR with h9 | h9
    · have:=h.rl _ h9;omega
    · have:=q3 _ hR;omega
  have h2:=clS_bh (zbs h hbW) q2 q3 q5 q6 q7;have hbl:=(zsO.1 h.box).1;have hml:=zc7 h.mp;have htl:tb<w.heap.size:=by obtain⟨_,cs,htc,-⟩:=h.rt;exact(zsO.1 htc).1
  refine⟨ziz q4 (zaj hV (λk _ e hR=>hn9 (e▸hR))),λk hk=>(q2 k hk).imp id (λh9=>by omega),hn9,zuQ h2 hV (λk e=>?_),?_⟩
  · subst e;exact⟨hn9,by omega,by omega,by omega,λhL=>by have:=zgX h.ls hL;omega,λq hq hO=>by have:=zaO (h.set q hq) hO;omega⟩
  · have h3:Fr (λk=>k=tb) w W2:=zcK (zae hbW) q7;refine⟨zsy h3.1 hV.1,λk hk ho=>(hV.2.1 k (by have:=h3.1;omega) (by omega)).trans (h3.2.1 k hk ho),hV.2.2.1.trans h3.2.2.1,hV.2.2.2.1.trans h3.2.2.2.1,hV.2.2.2.2.trans h3.2.2.2.2⟩
theorem znj{a b c nk m1 m2:Nat}(h1:a<=nk)(h2:a=b+(m1+m2))(h3:nk<=c)(hc:c<=1048576:=by omega):IntKind.i64.wrap ((m1:Int)+(m2:Int))=(m1:Int)+(m2:Int):=by
  rw[IntKind.wrap_i64];omega
theorem ztU{G:Gm}(hG:GOk G){M:Nat->Nat->Bool}(hM:∀ q k,M q k=true->k<G.nk):zeo G (ctW M) G.prods.length<=4194304:=by
  have h1:=zqW (G:=G) (ct:=ctW M) (c:=1024) (λq=>zsy (zuM (hM q) (by have:=hG.k3;omega)) hG.k3) G.prods.length;have h2:=hG.ps;have h3:G.prods.length * 1024<=4096 * 1024:=Nat.mul_le_mul_right _ h2;omega
theorem zpx(G:Gm)(r:Nat):(zfA G r).length=((List.range G.prods.length).filter λp=>decide ((G.prods.getD p pd0).left=(r:Int))).length:=by
  unfold zfA;rw[List.length_map]
theorem zpw{G:Gm}(hG:GOk G)(r:Nat):(zfA G r).length<=4096:=by
  rw[zpx];have h1:=List.length_filter_le (λp=>decide ((G.prods.getD p pd0).left=(r:Int))) (List.range G.prods.length);have h2:=hG.ps;rw[List.length_range] at h1;omega
theorem zp7{R:Nat->Prop}{B0 B cb gb tb sb mb lb:Nat}{G:Gm}{P:Nat->Bool}{A:Nat->Nat}{OO:Nat->Nat->Prop}{LO:Nat->Prop}{n:Nat}{M:Nat->Nat->Bool}{r:Nat}{S1 S L:Nat->Bool}{H:Nat->Bool}{cnt m1 Z:Nat}{w W:World}(h:ClS R B cb gb tb sb mb lb G P A OO LO n (zce M r S1) H cnt w)(hP:P r=true)(hlk:LkR A OO M r w Z L)(hf:StF B0 sb mb P OO LO)
    (hm1:ctW (zce M r S1) r=ctW M r+m1) (hS:∀ k,S k=(S1 k || L k)) (hB0:B0<=w.heap.size) (hb:Below w.heap.size w W) :
    Calls Tryz.prog 117 #[.pointer (some ⟨A r,0,none⟩),.pointer (some ⟨Z,0,none⟩)] W λe w'=>∃ m2:Nat,e=.returned (.int .i64 (m2:Int))/\ctW (zce M r S) r=ctW M r+(m1+m2)/\Fr (λk=>B0<=k/\¬ R k) w w'/\∃ OO',ClS R B cb gb tb sb mb lb G P A OO' LO n (zce M r S) H cnt w'/\StF B0 sb mb P OO' LO:=by
  have hW:=zbs h hb;have hset:=hW.set r hP;rcases hlk with ⟨O,h1,h2⟩ | ⟨rfl,rfl⟩
  · have hLL:zce (zce M r S1) r L=zce M r S:=by
      funext q k;rw[Bool.eq_iff_iff,layM_iff,layM_iff,layM_iff,hS,Bool.or_eq_true];constructor
      · rintro((h | ⟨e,h⟩) | ⟨e,h⟩)
        · exact .inl h
        · exact .inr ⟨e,.inl h⟩
        · exact .inr ⟨e,.inr h⟩
      · rintro(h | ⟨e,h | h⟩)
        · exact .inl (.inl h)
        · exact .inl (.inr ⟨e,h⟩)
        · exact .inr ⟨e,h⟩
    have hup:ctW (zce M r S1) r<=ctW (zce (zce M r S1) r L) r:=zmX (λk hk=>layM_iff.2 (.inl hk));obtain⟨m2,hm2⟩:∃ m2,ctW (zce (zce M r S1) r L) r=ctW (zce M r S1) r+m2:=⟨_,(Nat.add_sub_cancel' hup).symm⟩;refine(zuE (A r) Z (OO r) O _ (gF L) W hset (zaz h1 (zae (O:=λ_=>False) hb) (λ_ _ h=>h)) h2).mono ?_;rintro e w' ⟨rfl,hf',O2,h3,h4⟩;have hj:=zm2 hW hP hf' (f:=gF L) (S:=L) (λ_=>rfl) h3 h4;rw[hLL] at hj hm2;refine⟨m2,zmJ (S1:=L) (λ_=>rfl) (by rw[hLL];exact hm2),by rw[hm2,hm1,Nat.add_assoc],zcK (zae hb) (zaj hf' (λk _ ho=>⟨hf.oo r hP k ho,(h.out r hP k ho).1⟩)),_,hj,hf.sb,hf.mb,λq hq k hk=>?_,hf.lo⟩;by_cases e:q=r
    · rw[if_pos e] at hk;rcases h4 k hk with h9 | h9
      · exact hf.oo r hP k h9
      · have:=hb.size;omega
    · rw[if_neg e] at hk;exact hf.oo q hq k hk
  · have hLL:zce M r S1=zce M r S:=by
      funext q k;rw[Bool.eq_iff_iff,layM_iff,layM_iff,hS,Bool.or_eq_true];constructor
      · rintro(h | ⟨e,h⟩)
        · exact .inl h
        · exact .inr ⟨e,.inl h⟩
      · rintro(h | ⟨e,h | h⟩)
        · exact .inl h
        · exact .inr ⟨e,h⟩
        · exact .inl (e▸h)
    refine(zly (A r) (OO r) _ W hset).mono ?_;rintro e w' ⟨rfl,hb'⟩;rw[hLL] at hW hm1;exact⟨0,rfl,hm1,zae (hb.trans (zab hb' hb.size)),OO,zbs hW hb',hf⟩
theorem zp8(R:Nat->Prop)(B0 B cb gb tb sb mb lb:Nat)(G:Gm)(hG:GOk G)(P:Nat->Bool)(A:Nat->Nat)(OO:Nat->Nat->Prop)(LO:Nat->Prop)(n:Nat)(M:Nat->Nat->Bool)(H:Nat->Bool)(w:World)(hB0:B0<=w.heap.size)
    (h:ClS R B cb gb tb sb mb lb G P A OO LO n M H (zeo G (ctW M) G.prods.length) w) (hf:StF B0 sb mb P OO LO) (hM:∀ q k,M q k=true->k<G.nk) (L:Nat->Bool) (hL:∀ k,L k=true->k<G.nk)
    (p d:Nat) (k0:Int) (hp:p<=G.prods.length) (hd:d<=(zas G p).length) (Z:Nat) (hz:zuY P A OO M w Z L) :
    Calls Tryz.prog 67 #[.pointer (some ⟨sb,0,none⟩),.agg #[.int .i64 (p:Int),.int .i64 (d:Int)],.pointer (some ⟨Z,0,none⟩)] w λe w'=>zhu R B0 B cb gb tb sb mb lb G P A M H w (atR G ((p:Int),(d:Int),k0)) (zb2 G (zdA G ((p:Int),(d:Int),k0)) L) e w':=by
  obtain⟨W0,hW0⟩:∃ W0,W0=w.alloc (.cells #[.int .i64 (p:Int),.int .i64 (d:Int)] 121):=⟨_,rfl⟩;have hb0:Below w.heap.size w W0:=by rw[hW0];exact(zsY _ _).alloc (zsG _) _
  have hbx:W0.heap[w.heap.size]? = some (.cells #[.int .i64 (p:Int),.int .i64 (d:Int)] 121 (0,0)):=by rw[hW0];exact zsH _ _
  have hs0:W0.heap.size=w.heap.size+1:=by rw[hW0];simp
  have h0:=zbs h hb0;have Hz:=zaa hz;have Hf:=zaa hf;have Hb0:=zaa hb0;have HM:=zaa hM;have HL:=zaa hL;have Hh0:=zaa h0;obtain⟨na,nc,fa,fc,oa,oc,rc,hcbx,hRc,hgm,hBw,hRB,-,-,hOw⟩:=h0.cl;have s0:=zac h0.box 0 rfl;have s1:=zac h0.box 1 rfl;have s2:=zac h0.box 2 rfl;have s3:=zac h0.box 3 rfl;have c0:=zac hcbx 0 rfl;have a0:=zac hbx 0 rfl;have a1:=zac hbx 1 rfl;obtain⟨ra,rac,hrow,hrc,HR0⟩:=zk8 B gb G hG p hp W0 hgm;have HR:=zaa HR0;have hlen:=zcu hG (p:=(p:Int)) (by omega) (by omega);clear h0 HR0
  have Hbn:Hid (∀ W:World,W=W0\/Below W0.heap.size W0 W->zhu R B0 B cb gb tb sb mb lb G P A M H w none (zb2 G (zdA G ((p:Int),(d:Int),k0)) L) (.returned (.tuple #[])) W):=zaa (λW hW=>by
    have hbW:Below w.heap.size w W:=by
      rcases hW with rfl | hW
      · exact uh Hb0
      · exact(uh Hb0).trans (zab hW (uh Hb0).size)
    exact⟨rfl,zae hbW,R,P,A,OO,LO,n,M,H,zbs h hbW,uh Hf,λ_ h=>h,λ_ h=>.inl h,λ_ h=>⟨h,rfl⟩,rfl,rfl⟩)
  by_cases e:d=(zas G p).length
  · have hat:atR G ((p:Int),(d:Int),k0)=none:=by
      have:zdh G ((p:Int),(d:Int),k0)=none:=by unfold zdh;simp[e]
      unfold atR;rw[this]
    rw[hat];generalize hS:zb2 G (zdA G ((p:Int),(d:Int),k0)) L=S at *;clear hat h hOw hrow hM hL hz hf hS;subst e;generalize zas G p=row at *;subst hW0;go_enter Tryz.func67,Tryz.ntmps67;go_wp2_with fail;generalize w.alloc (.cells #[.int .i64 (p:Int),.int .i64 (row.length:Int)] 121)=W0 at *;go_quiet ((go_at_call 82;exact zdl (uh HR _)));go_wp2;exact bodyPost_ret (results_none rfl _ _ _) rfl (uh Hbn _ (.inr (zap (zsY _ _) _)))
  · have hlt:d<(zas G p).length:=by omega
    have hsym:zdh G ((p:Int),(d:Int),k0)=some ((zas G p).getD d 0):=by
      unfold zdh;simp only[zsS];rw[zsF hlt,zsE,zsF hlt];rfl
    have hs:=zbe hG (p:=(p:Int)) (by omega) (by omega) _ (zbg hlt);have hk3:=hG.k3;have hr2:=hG.r2;unfold Gm.nk at hk3;unfold Gm.nr at hr2;have HQ:=zaa (λ(W:World) (hb:Below W0.heap.size W0 W)=>zjN B gb G hG ((zas G p).getD d 0) (by omega) W (zaX (zab hb hBw) hgm));have hat:atR G ((p:Int),(d:Int),k0)=if (G.kinds.length:Int)<=(zas G p).getD d 0 then some ((zas G p).getD d 0 - G.kinds.length).toNat else none:=by
      unfold atR;rw[hsym]
    have hne:¬ (d:Int)=((zas G p).length:Int):=by omega
    have hd64:(d:Int)<((zas G p).length:Int):=by omega
    obtain⟨rb,roff,rfl,hrbl,hcx⟩:=zbf hrow hlt;have HBHH:=zaa (λ(R1:Nat->Prop) (W:World) (hc:ClB R1 B W cb gb tb G) (ht:RsT R1 W G tb) (hl:∀ k,R1 k->k<W.heap.size)=>zoo R1 B cb gb tb G hG p hp d hlt W hc ht hl);have hrest:zdA G ((p:Int),(d:Int),k0)=(zas G p).drop (d+1):=by unfold zdA;simp
    have Hrest0:Hid (∀ x,x ∈ (zas G p).drop (d+1)->0<=x):=zaa (λx hx=>by
      have:=zbe hG (p:=(p:Int)) (by omega) (by omega) x (List.mem_of_mem_drop hx)
      omega)
    rw[hat,hrest];rw[hrest] at Hbn;clear hsym e hat hrest;generalize hrow2:(zas G p).drop (d+1)=rest at *;generalize zas G p=row at *;obtain⟨x,hxe⟩:∃ x,x=row.getD d 0:=⟨_,rfl⟩;have Hse:=zaa hxe;rw[<- hxe] at HQ hs hcx ⊢;clear hxe;by_cases hr:(G.kinds.length:Int)<=x
    case neg =>
      rw[if_neg hr,decide_eq_false hr] at HQ;rw[if_neg hr];clear h hOw hrow hM hL hz hf HBHH;subst hW0;go_enter Tryz.func67,Tryz.ntmps67;go_wp2_with fail;generalize w.alloc (.cells #[.int .i64 (p:Int),.int .i64 (d:Int)] 121)=W0 at *;go_quiet ((go_at_call 82;exact zdl (uh HR _)));go_wp2_with fail;go_quiet ((go_at_call 115;exact(uh HQ _ (zap (zsY _ _) _)).mono (λ_ _ h=>⟨h.1,_,h.2.symm⟩)));go_wp2_with fail;exact bodyPost_ret (results_none rfl _ _ _) rfl (uh Hbn _ (.inr (zap (zsY _ _) _)))
    case pos =>
      obtain⟨r,rfl⟩:∃ r:Nat,x=(G.kinds.length:Int)+r:=⟨(x - G.kinds.length).toNat,by omega⟩;rw[if_pos hr,decide_eq_true hr,show (G.kinds.length:Int)+(r:Int) - (G.kinds.length:Int)=(r:Int) by omega] at HQ;rw[if_pos hr,show ((G.kinds.length:Int)+(r:Int) - (G.kinds.length:Int)).toNat=r by omega];have hrn:r<G.nr:=by unfold Gm.nr;omega
      have hr2k:r<2048:=by have:=hG.r2;omega
      have hr48:r<=1048576:=by omega
      generalize (G.kinds.length:Int)+(r:Int)=x at *;clear Hbn hOw hM hL hz hf;subst hW0;go_enter Tryz.func67,Tryz.ntmps67;go_wp2_with fail;generalize w.alloc (.cells #[.int .i64 (p:Int),.int .i64 (d:Int)] 121)=W0 at *;go_quiet ((go_at_call 82;exact zdl (uh HR _)));generalize nq=q1 at *;go_wp2_with fail;go_quiet ((go_at_call 115;exact(uh HQ _ (zap (zsY _ _) _)).mono (λ_ _ h=>⟨h.1,_,h.2.symm⟩)));obtain⟨W1,hW1⟩:∃ W1,W1=(W0.drewN q1).drewN nq:=⟨_,rfl⟩;rw[<- hW1];have hb1:Below W0.heap.size W0 W1:=by rw[hW1];exact zap (zap (zsY _ _) _) _
      have hs1:W1.heap.size=W0.heap.size:=by rw[hW1];rfl
      clear hW1;have h1:=zbs (uh Hh0) hb1;have hbx1:=(hb1.block _ (zsO.1 hbx).1).trans hbx;obtain⟨ap,hap⟩:∃ ap:Option Addr,zkQ (if P r then some (A r) else none)=.pointer ap/\ap.isNone=!P r:=by
        cases hP:P r
        · exact⟨none,rfl,rfl⟩
        · exact⟨some ⟨A r,0,none⟩,rfl,rfl⟩
      have hlk:=ze7 h1.mp r hr48;rw[hap.1] at hlk;have s0:=zac h1.box 0 rfl;have s1:=zac h1.box 1 rfl;have s2:=zac h1.box 2 rfl;have s3:=zac h1.box 3 rfl;have a0:=zac hbx1 0 rfl;have a1:=zac hbx1 1 rfl;have Hh1:=zaa h1;have Hb1:=zaa (hb0.trans (zab hb1 hb0.size));have Hap:=zaa hap;clear h1 hb1 hb0 hap
      go_upto_if 50 with fail
      have hsbl:sb<W1.heap.size:=(zsO.1 (uh Hh1).box).1;have hmbl:=zc7 (uh Hh1).mp;have hsm:=(zdu (uh Hh1)).1;have hmtw:mb≠w.heap.size:=λe=>zca (uh Hh1).mp (e▸hbx1);have hnmax:n<maxLen:=by have:=(uh Hh1).nle;have:maxLen=9223372036854775807:=rfl;omega
      go_cut [] (λwx=>∃ (P1:Nat->Bool) (A1:Nat->Nat) (OO1:Nat->Nat->Prop) (n1:Nat),ClS R B cb gb tb sb mb lb G P1 A1 OO1 LO n1 M H (zeo G (ctW M) G.prods.length) wx/\StF B0 sb mb P1 OO1 LO/\zuY P1 A1 OO1 M wx Z L/\P1 r=true/\(∀ q,P q=true->P1 q=true/\A1 q=A q)/\Fr (λk=>k=mb) W1 wx)
      case first =>
        cases hP:P r with
        | true =>
          obtain rfl:some ⟨A r,0,none⟩=ap:=by have h9:=(uh Hap).1;rw[hP] at h9;simpa [zkQ] using h9
          clear Hap;have Hlk1:Hid (zuY P A OO M W1 Z L):=zaa (zh3 (uh Hz) (uh Hb1));have HP:=zaa hP;clear hP;go_wp2
          go_meet
          exact⟨P,A,OO,n,uh Hh1,uh Hf,uh Hlk1,uh HP,λ_ h=>⟨h,rfl⟩,zax _ _⟩
        | false =>
          obtain rfl:none=ap:=by have h9:=(uh Hap).1;rw[hP] at h9;simpa [zkQ] using h9
          clear Hap;have HP:=zaa hP;clear hP;go_wp2_with fail;refine wp_region_held_drew (S:=(λW:World=>W.cell? ⟨sb,1,none⟩=some (.map (some mb))/\True)) (by kernel_rfl) (⟨s1,trivial⟩) (λhZ=>?_);refine zad 0 51 rfl rfl hZ (λw ⟨k0,_⟩=>by go_simp;try rfl) ?_;simp only[Act.put,zsA,zsB,zsC];refine zad 1 52 rfl rfl hZ (λw ⟨k0,_⟩=>by go_simp;try rfl) ?_;simp only[Act.put,zsA,zsB,zsC];refine zad 2 53 rfl rfl hZ (λw ⟨k0,_⟩=>by go_simp;try rfl) ?_;simp only[Act.put,zsA,zsB,zsC];refine zad 3 54 rfl rfl hZ (λw ⟨k0,_⟩=>by go_simp;try rfl) ?_;simp only[Act.put,zsA,zsB,zsC];refine zad 4 55 rfl rfl hZ (λw ⟨k0,_⟩=>by go_simp;try rfl) ?_;simp only[Act.put,zsA,zsB,zsC];refine zai 5 rfl λK hK=>?_;go_simp;refine(zcD none 0 [] (by simp) (by simp) W1.drew (.inl rfl)).mono ?_;rintro e W2 ⟨rfl,hb2,O2,hset2,hO2⟩;have hbW2:Below W1.heap.size W1 W2:=⟨hb2.os,hb2.tape,hb2.output,hb2.size,hb2.block⟩;have k1:=(hbW2.cell (p:=⟨sb,1,none⟩) hsbl).trans s1;have hz1:W1.drew.heap.size=w.heap.size+1:=hs1.trans hs0;rw[hz1] at hset2 hO2;clear hz1;obtain⟨W3,hput,hpt3,hg3⟩:=zvs (zdJ (uh Hh1).mp (hbW2.block mb hmbl)) hnmax r hr48 (w.heap.size+1);have Hpt3:=zaa hpt3;have Hset2:=zaa hset2;have HO2:=zaa hO2;have HbW2:=zaa hbW2;clear hpt3 hset2 hO2 hb2 hbW2;go_wp2_with fail;refine hK.out _ _ (⟨k1,trivial⟩) (λhZ=>?_);clear hK K;refine zai 6 rfl λK hK=>?_;go_simp;go_wp2_with fail;refine hK.out _ _ (⟨(zsL (hg3.block sb (by have:=(uh HbW2).size;show sb<_;omega) (λe=>hsm (by cases e;rfl)))).trans k1,trivial⟩) (λhZ=>?_);clear hK K;refine wpAnyH_done (by kernel_rfl) ?_ _;go_wp2
          go_meet
          have hfrM:Fr (λk=>k=mb) W1 W3:=zcK (zae (uh HbW2)) ⟨hg3.size,λk hk ho=>hg3.block k hk (λe=>ho (by cases e;rfl)),hg3.os,hg3.tape,hg3.output⟩;have hO2':∀ k,O2 k->W1.heap.size<=k:=λk hk=>by have:=uh HO2 k hk;omega
          have hset0:SetN W2 (w.heap.size+1) O2 (λ_=>false):=by
            have:=uh Hset2;have e:(inR []:Int->Bool)=λ_=>false:=by funext m;simp[inR]
            rw[e] at this;exact this
          have hnew:=zwR (uh Hh1) (uh HP) hr2k hrn (uh HbW2) hset0 hO2' (uh Hpt3) hg3;have hff:=uh Hf;refine⟨_,_,_,_,hnew,⟨hff.sb,hff.mb,λq hq k hk=>?_,hff.lo⟩,?_,zgg P r,λq hq=>?_,hfrM⟩
          · by_cases e:q=r
            · rw[if_pos e] at hk;have:=hO2' k hk;omega
            · rw[if_neg e] at hk;exact hff.oo q ((zkX hq).resolve_left e) k hk
          · rcases zh3 (uh Hz) (uh Hb1) with ⟨O,h1,h2⟩ | ⟨r0,h1,h2,h3⟩
            · refine .inl ⟨O,zaz h1 hfrM (λk hk e=>?_),λq hq k hk=>?_⟩
              · obtain⟨cs,t,g1,-⟩:=h1.ty k hk;rw[e] at g1;exact zca (uh Hh1).mp g1
              · by_cases e:q=r
                · show ¬ (if q=r then O2 else OO q) k;rw[if_pos e];intro h9;have:=hO2' k h9;have:=zaO h1 hk;omega
                · show ¬ (if q=r then O2 else OO q) k;rw[if_neg e];exact h2 q ((zkX hq).resolve_left e) k hk
            · have e:r0≠r:=λe=>by rw[e,uh HP] at h1;cases h1
              exact .inr ⟨r0,zoE P r r0 h1,by show Z=(if r0=r then w.heap.size+1 else A r0);rw[if_neg e];exact h2,h3⟩
          · have e:q≠r:=λe=>by rw[e,uh HP] at hq;cases hq
            exact⟨zoE P r q hq,if_neg e⟩
      case rest =>
        obtain⟨P1,A1,OO1,n1,h1,hf1,hlk1,hPr,hPA,hfr1⟩:=hcut;generalize wc=wA at *;have hszA:w.heap.size+1<=wA.heap.size:=by have:=hfr1.1;omega
        have hbxc:=(hfr1.2.1 w.heap.size (zsO.1 hbx1).1 (λe=>hmtw e.symm)).trans hbx1;clear hlk s0 s1 s2 s3 a0 a1 c0 Hap;obtain⟨na1,nc1,fa1,fc1,oa1,oc1,rc1,hcbx1,hRc1,hgm1,hBw1,hRB1,-,-,hOw1⟩:=h1.cl;have s0:=zac h1.box 0 rfl;have s1:=zac h1.box 1 rfl;have s2:=zac h1.box 2 rfl;have s3:=zac h1.box 3 rfl;have a0:=zac hbxc 0 rfl;have a1:=zac hbxc 1 rfl;obtain⟨i1,i2,i3,i4,i5⟩:=zdu h1;have htl1:tb<wA.heap.size:=by obtain⟨_,cs,htc,-⟩:=h1.rt;exact(zsO.1 htc).1
        have htw:tb<w.heap.size:=by obtain⟨_,cs,htc,-⟩:=h.rt;exact(zsO.1 htc).1
        have HS:Hid (∀ W:World,Fr (λk=>k=tb\/wA.heap.size<=k) wA W->W.cell? ⟨sb,0,none⟩=some (.pointer (some ⟨cb,0,none⟩))/\W.cell? ⟨w.heap.size,0,none⟩=some (.int .i64 (p:Int))/\W.cell? ⟨w.heap.size,1,none⟩=some (.int .i64 (d:Int))):=zaa (λW hf=>by
          have hs9:=(zsO.1 h1.box).1;have hw9:=(zsO.1 hbxc).1;have e1:=(hf.2.1 sb hs9 (by omega)).trans h1.box;have e2:=(hf.2.1 w.heap.size hw9 (by omega)).trans hbxc
          exact⟨zac e1 0 rfl,zac e2 0 rfl,zac e2 1 rfl⟩)
        have HB1:=zaa (λ(W:World) (hb:Below wA.heap.size wA W)=>(uh HBHH) R W (zbb h1.cl (zba hb)) (zbC h1.rt (zaj (zae (O:=λ_=>False) hb) (λ_ _ h=>h.elim))) (λk hk=>zsJ (h1.rl k hk) hb.size));have hS:=zsY wA.heap.size wA;have hZt:∀ O f,SetN wA Z O f->¬ O tb:=λO f hs ho=>by obtain⟨_,cs,htc,-⟩:=h1.rt;exact zaq htc (by decide) (by decide) (hs.ty _ ho)
        have Hh1c:=zaa h1;have Hf1:=zaa hf1;have Hlk1:=zaa hlk1;have HPr:=zaa hPr;have HPA:=zaa hPA;have Hfr1:=zaa hfr1;generalize hem:zar G.nk (zat G) rest=em at *;clear h1 hf1 hlk1 hPr hPA hfr1;go_upto_region 7 with fail
        go_cut [9] (λs wx=>∃ (R2:Nat->Prop) (b9 Z2:Nat),s=.pointer (some ⟨b9,0,none⟩)/\wx.heap[b9]? = some (.cells #[.pointer (some ⟨Z2,0,none⟩),.bool em] 182 (0,0))/\wA.heap.size<=b9/\zrB R2 wx Z2 (zf7 G rest)/\(∀ k,R k->R2 k)/\(∀ k,R2 k->R k\/wA.heap.size<=k)/\¬ R2 b9/\ClS R2 B cb gb tb sb mb lb G P1 A1 OO1 LO n1 M H (zeo G (ctW M) G.prods.length) wx/\Fr (λk=>k=tb) wA wx)
        case first =>
          go_region_held3 (λW:World=>W.cell? ⟨sb,0,none⟩=some (.pointer (some ⟨cb,0,none⟩))/\W.cell? ⟨w.heap.size,0,none⟩=some (.int .i64 (p:Int))/\W.cell? ⟨w.heap.size,1,none⟩=some (.int .i64 (d:Int)))
            (first | exact uh HS _ (zae hS) | exact uh HS _ (zae hS.drew) | exact uh HS _ (zae (hS.alloc hS.size _)) | exact uh HS _ (zae (hS.drew.alloc hS.size _)) | exact uh HS _ hF2 | exact uh HS _ (zcK hF2 (zae ((zsY _ _).alloc (zsG _) _))) | exact uh HS _ (zaD (zaD hF2 (p:=⟨wA.heap.size,0,none⟩) (.inr (zsG _)) _) (p:=⟨wA.heap.size,1,none⟩) (.inr (zsG _)) _) | exact uh HS _ (zaD (zaD (zcK hF2 (zae ((zsY _ _).alloc (zsG _) _))) (p:=⟨W2.heap.size,0,none⟩) (.inr hF2.1) _) (p:=⟨W2.heap.size,1,none⟩) (.inr hF2.1) _) | fail)
            (first
              | (go_at_call 116;refine(uh HB1 _ (by first | exact hS | exact hS.drew | exact hS.alloc hS.size _ | exact hS.drew.alloc hS.size _)).mono ?_;rintro e W2 ⟨R2,Z2,rfl,q1,q2,q3,q4,q5,q6,q7⟩;have hF2:Fr (λk=>k=tb\/wA.heap.size<=k) wA W2:=zcK (zae (by first | exact hS | exact hS.drew | exact hS.alloc hS.size _ | exact hS.drew.alloc hS.size _)) (zaj q7 (λ_ _ e=>.inl e));(try (have hx9:W2.heap[wA.heap.size]? = some (.cells #[.pointer none,.bool false] 182 (0,0)):=(q7.2.1 wA.heap.size (by simp) (by omega)).trans (by first | exact zsH wA.drew _ | exact zsH wA _);have u0:=zac hx9 0 rfl;have u1:=zac hx9 1 rfl;have z0:=Wk.frozen_block hx9 0;have z1:=Wk.frozen_block hx9 1;have Hx9:=zaa hx9;clear hx9));have Hq:=zaa (And.intro q1 (And.intro q2 (And.intro q3 (And.intro q4 (And.intro q5 (And.intro q6 q7))))));clear q1 q2 q3 q4 q5 q6 q7)
              | fail)
          · go_wp2
            go_meet
            obtain⟨q1,q2,q3,q4,q5,q6,q7⟩:=uh Hq;have hz9:wA.heap.size<=W2.heap.size:=hF2.1;obtain⟨g1,g2,g3,g4,g5⟩:=zuC (V:=W2.alloc (.cells #[.pointer (some ⟨Z2,0,none⟩),.bool em] 182)) (b9:=W2.heap.size) (uh Hh1c) (by first | exact hS | exact hS.drew) q2 q3 q4 q5 q6 q7 hz9 (.inr (zsG _)) (zae ((zsY _ _).alloc (zsG _) _));exact⟨R2,W2.heap.size,Z2,rfl,zsH W2 _,hz9,g1,q1,g2,g3,g4,g5⟩
          · go_wp2
            go_meet
            obtain⟨q1,q2,q3,q4,q5,q6,q7⟩:=uh Hq;obtain⟨g1,g2,g3,g4,g5⟩:=zuC (V:=(W2.setCell ⟨wA.heap.size,0,none⟩ (.pointer (some ⟨Z2,0,none⟩))).setCell ⟨wA.heap.size,1,none⟩ (.bool em)) (b9:=wA.heap.size) (uh Hh1c) (by first | exact hS.alloc hS.size _ | exact hS.drew.alloc hS.size _) q2 q3 q4 q5 q6 q7 (zsG _) (.inl (by simp)) (zaD (zaD (zax (λx=>x=wA.heap.size) W2) (p:=⟨wA.heap.size,0,none⟩) rfl _) (p:=⟨wA.heap.size,1,none⟩) rfl _);exact⟨R2,wA.heap.size,Z2,rfl,ze1 (uh Hx9),zsG _,g1,q1,g2,g3,g4,g5⟩
        case rest =>
          obtain⟨R2,b9,Z2,rfl,hx9,hz9,hset9,hRR,hR2,hn9,h2,hfr2⟩:=hcut;generalize wc=wB at *;have hszB:wA.heap.size<=wB.heap.size:=hfr2.1;clear HB1 HS s0 s1 s2 s3 a0 a1 hbxc hcbx1 hRc1 hgm1 hBw1 hRB1 hOw1 hsbl hmbl hsm hmtw i1 i2 i3 i4 i5 htl1;have s0:=zac h2.box 0 rfl;have s1:=zac h2.box 1 rfl;have s2:=zac h2.box 2 rfl;have s3:=zac h2.box 3 rfl;have x0:=zac hx9 0 rfl;have x1:=zac hx9 1 rfl;have hlk:=ze7 h2.mp r hr48;rw[uh HPr] at hlk;simp only[if_true,zkQ] at hlk;obtain⟨O9,hO9,hO9R⟩:=hset9;have hlkR:=lkR_of h2 (zti (uh Hlk1) hfr2 hZt) (uh HPr);have hrest0:∀ x,x ∈ rest->0<=x:=uh Hrest0;obtain⟨S1,hS1⟩:∃ S1,S1=zet G.nk (zat G) (zdy G) rest:=⟨_,rfl⟩;have hfS1:∀ m,zf7 G rest m=(decide (0<=m) && S1 m.toNat):=λm=>by rw[hS1];rfl
          have hup1:ctW M r<=ctW (zce M r S1) r:=zmX (λk hk=>layM_iff.2 (.inl hk));obtain⟨m1,hm1⟩:∃ m1,ctW (zce M r S1) r=ctW M r+m1:=⟨_,(Nat.add_sub_cancel' hup1).symm⟩;have hsb9:sb≠b9:=λe=>by rw[e] at s1;have:=(zsO.1 h2.box).1;rw[<- e] at hx9;rw[h2.box] at hx9;cases hx9
          have hout:=h2.out r (uh HPr);have hids:=(zdu h2).2.2.2.2 r (uh HPr);have h9O:¬ OO1 r b9:=λho=>by have:=(h2.set r (uh HPr)).ty _ ho;exact zaq hx9 (by decide) (by decide) this
          have HS:Hid (∀ W:World,Fr (OO1 r) wB W->W.cell? ⟨sb,1,none⟩=some (.map (some mb))/\W.cell? ⟨b9,0,none⟩=some (.pointer (some ⟨Z2,0,none⟩))/\(Instr.lookup 174 (.map (some mb)) (.int .i64 (r:Int)) false).run Tryz.prog W=.ok (.pointer (some ⟨A1 r,0,none⟩)) W):=zaa (λW hf=>by
            have e1:=(hf.2.1 sb (zsO.1 h2.box).1 (λho=>(hids _ ho).1 rfl)).trans h2.box;have e2:=(hf.2.1 b9 (zsO.1 hx9).1 h9O).trans hx9;have e3:=ze7 (zdJ h2.mp (hf.2.1 mb (zc7 h2.mp) (λho=>(hids _ ho).2.2 rfl))) r hr48;rw[uh HPr] at e3;simp only[if_true,zkQ] at e3
            exact⟨zac e1 1 rfl,zac e2 0 rfl,e3⟩)
          have HJ:Hid (∀ W:World,Below wB.heap.size wB W->Calls Tryz.prog 117 #[.pointer (some ⟨A1 r,0,none⟩),.pointer (some ⟨Z2,0,none⟩)] W λe w'=>e=.returned (.int .i64 (m1:Int))/\Fr (OO1 r) wB w'/\∃ O2,SetN w' (A1 r) O2 (orF (kF M r) (zf7 G rest))/\∀ k,O2 k->OO1 r k\/wB.heap.size<=k):=zaa (λW hb=>by
            refine(zuE (A1 r) Z2 (OO1 r) O9 (kF M r) (zf7 G rest) W (zaz (h2.set r (uh HPr)) (zae (O:=λ_=>False) hb) (λ_ _ h=>h)) (zaz hO9 (zae (O:=λ_=>False) hb) (λ_ _ h=>h)) (λk hk ho=>(hout k ho).1 (hO9R k hk))).mono ?_;rintro e w' ⟨rfl,hf,O2,h3,h4⟩
            exact⟨zmJ hfS1 hm1,zcK (zae hb) hf,O2,h3,λk hk=>(h4 k hk).imp id (λh=>by have:=hb.size;omega)⟩)
          have hS:=zsY wB.heap.size wB;have Hh2:=zaa h2;have HlkR:=zaa hlkR;have HfS1:=zaa hfS1;have Hx9:=zaa hx9;have Hm1:=zaa hm1;have HS1:=zaa hS1;clear hlkR hS1 hfS1 hx9 hout hids hlk s0 s2 s3 h2 hm1 hup1 h9O;go_upto_region 8 with fail
          go_cut [10] (λs wx=>s=.int .i64 (m1:Int)/\Fr (OO1 r) wB wx/\∃ O2,SetN wx (A1 r) O2 (orF (kF M r) (zf7 G rest))/\∀ k,O2 k->OO1 r k\/wB.heap.size<=k)
          case first =>
            go_region_held3 (λW:World=>W.cell? ⟨sb,1,none⟩=some (.map (some mb))/\W.cell? ⟨b9,0,none⟩=some (.pointer (some ⟨Z2,0,none⟩))/\(Instr.lookup 174 (.map (some mb)) (.int .i64 (r:Int)) false).run Tryz.prog W=.ok (.pointer (some ⟨A1 r,0,none⟩)) W)
              (first | exact uh HS _ (zae hS) | exact uh HS _ (zae hS.drew) | exact uh HS _ hF2 | fail)
              (first
                | (go_at_call 117;refine(uh HJ _ (by first | exact hS | exact hS.drew)).mono ?_;rintro e W2 ⟨rfl,hF2,hO2⟩;have HO2:=zaa hO2;clear hO2)
                | fail)
            all_goals
              go_wp2
              go_meet
              exact⟨rfl,hF2,uh HO2⟩
          case rest =>
            obtain⟨rfl,hf3,O2,hs3,hO2⟩:=hcut;generalize wc=wC at *;have hszC:wB.heap.size<=wC.heap.size:=hf3.1;clear HS HJ s1 x0;have h3:=zm2 (uh Hh2) (uh HPr) hf3 (uh HfS1) hs3 hO2;have hf2:=uh Hf1
            have hf3':StF B0 sb mb P1 (λq=>if q=r then O2 else OO1 q) LO:=⟨hf2.sb,hf2.mb,λq hq k hk=>by
              by_cases e:q=r
              · rw[if_pos e] at hk;rcases hO2 k hk with h9 | h9
                · exact hf2.oo r (uh HPr) k h9
                · omega
              · rw[if_neg e] at hk;exact hf2.oo q hq k hk,hf2.lo⟩
            have hlk3:LkR A1 (λq=>if q=r then O2 else OO1 q) M r wC Z L:=by
              rcases uh HlkR with ⟨O,h1,h2⟩ | h2
              · refine .inl ⟨O,zaz h1 hf3 h2,λk hk=>?_⟩;show ¬ (if r=r then O2 else OO1 r) k;rw[if_pos rfl];intro ho;rcases hO2 k ho with h9 | h9
                · exact h2 k hk h9
                · have:=zaO h1 hk;omega
              · exact .inr h2
            have hx3:=(hf3.2.1 b9 (zsO.1 (uh Hx9)).1 (λho=>zaq (uh Hx9) (by decide) (by decide) ((((uh Hh2).set r (uh HPr)).ty _ ho)))).trans (uh Hx9);have x1:=zac hx3 1 rfl;have s1:=zac h3.box 1 rfl;have hlk:=ze7 h3.mp r hr48;rw[uh HPr] at hlk;simp only[if_true,zkQ] at hlk;have hnk:G.nk<=1048576:=by have:=hG.k3;omega
            have hBC:B0<=wC.heap.size:=by omega
            obtain⟨S,hSe⟩:∃ S,S=zb2 G rest L:=⟨_,rfl⟩;have HJ:=zaa (λ(hS:∀ k,S k=(S1 k || L k))=>zp7 h3 (uh HPr) hlk3 hf3' (uh Hm1) hS hBC (zsY _ _));have hSk:∀ k,S k=true->k<G.nk:=λk hk=>by
              rw[hSe] at hk;rcases lookB_iff.1 hk with h9 | ⟨-,h9⟩
              · exact zjn hG hrest0 h9
              · exact uh HL k h9
            have hMS:∀ k,zce M r S r k=true->k<G.nk:=λk hk=>by
              rcases layM_iff.1 hk with h9 | ⟨-,h9⟩
              · exact uh HM r k h9
              · exact hSk k h9
            have hctk:=zuM hMS hnk;have hnk2:G.nk<=1024:=by have:=hG.k3;omega
            have Hctk:=zaa hctk;have HSk:=zaa hSk;have HSe:=zaa hSe;have Hh3:=zaa h3;have Hf3:=zaa hf3';have Hhf3:=zaa hf3;have Hx3:=zaa hx3;clear hctk hSk hMS hSe h3 hf3' hf3 hlk3 hs3 hO2 hx3 hf2
            go_upto_if 76 with fail
            go_cut [10] (λs wx=>∃ (m2:Nat) (OO3:Nat->Nat->Prop),s=.int .i64 (m2:Int)/\ctW (zce M r S) r=ctW M r+m2/\ClS R2 B cb gb tb sb mb lb G P1 A1 OO3 LO n1 (zce M r S) H (zeo G (ctW M) G.prods.length) wx/\StF B0 sb mb P1 OO3 LO/\Fr (λk=>B0<=k/\¬ R2 k) wC wx)
            case first =>
              cases em with
              | false =>
                have e1:S=S1:=by
                  rw[uh HSe,uh HS1];funext k;unfold zb2;rw[hem,Bool.false_and,Bool.or_false]
                clear hem;go_wp2
                go_meet
                subst e1;exact⟨m1,_,rfl,uh Hm1,uh Hh3,uh Hf3,zax _ _⟩
              | true =>
                have hS':∀ k,S k=(S1 k || L k):=λk=>by
                  rw[uh HSe,uh HS1];unfold zb2;rw[hem,Bool.true_and]
                have HJ2:=zaa (uh HJ hS');clear hem hS' HJ;go_wp2_with (go_at_call 117;refine(uh HJ2).mono ?_;rintro e W2 ⟨m2,rfl,hm2,hF2,OO4,h4,hf4⟩;have Hpost:=zaa (And.intro hm2 (And.intro hF2 (And.intro h4 hf4)));have hm64:IntKind.i64.wrap ((m1:Int)+(m2:Int))=(m1:Int)+(m2:Int):=znj (uh Hctk) hm2 hnk2;clear hm2 hF2 h4 hf4)
                go_meet
                obtain⟨hm2,hF2,h4,hf4⟩:=uh Hpost;exact⟨m1+m2,OO4,by rw[Int.natCast_add],hm2,h4,hf4,hF2⟩
            case rest =>
              obtain⟨m2,OO3,rfl,hm2,h4,hf4,hF4⟩:=hcut;generalize wc=wD at *;clear HJ hlk s1 x1;have hMn:∀ q k,zce M r S q k=true->k<G.nk:=λq k hk=>by
                rcases layM_iff.1 hk with h9 | ⟨-,h9⟩
                · exact uh HM q k h9
                · exact uh HSk k h9
              have hFr:Fr (λk=>k=tb\/(B0<=k/\¬ R k)) w wD:=by
                have e1:Fr (λk=>k=tb\/(B0<=k/\¬ R k)) W1 wA:=zaj (uh Hfr1) (λk _ e=>.inr ⟨by rw[e];exact(uh Hf).mb,by rw[e];exact h.nR.2⟩);have e2:Fr (λk=>k=tb\/(B0<=k/\¬ R k)) wA wB:=zaj hfr2 (λk _ e=>.inl e);have e3:Fr (λk=>k=tb\/(B0<=k/\¬ R k)) wB wC:=zaj (uh Hhf3) (λk _ e=>.inr ⟨(uh Hf1).oo r (uh HPr) k e,λhR=>((uh Hh2).out r (uh HPr) k e).1 (hRR k hR)⟩);exact zcK (zae (uh Hb1)) (zcK e1 (zcK e2 (zcK e3 (zaj hF4 (λk _ e=>.inr ⟨e.1,λhR=>e.2 (hRR k hR)⟩)))))
              have hR2w:∀ k,R2 k->R k\/w.heap.size<=k:=λk hk=>(hR2 k hk).imp id (λh9=>by omega);have hlastP:∀ (LO':Nat->Prop) (H':Nat->Bool) (V:World),ClS R2 B cb gb tb sb mb lb G P1 A1 OO3 LO' n1 (zce M r S) H' (zeo G (ctW (zce M r S)) G.prods.length) V->StF B0 sb mb P1 OO3 LO'->Fr (λk=>k=tb\/(B0<=k/\¬ R k)) w V->(∀ q,q≠r->H' q=H q)->((H' r=true/\∃ k,S k=true/\M r k=false)\/(H' r=H r/\∀ k,S k=true->M r k=true))->zhu R B0 B cb gb tb sb mb lb G P A M H w (some r) (zb2 G rest L) (.returned (.tuple #[])) V:=λLO' H' V hV hfV hFV ho hc=>by
                rw[<- uh HSe];exact⟨rfl,hFV,R2,P1,A1,OO3,LO',n1,zce M r S,H',hV,hfV,hRR,hR2w,uh HPA,rfl,uh HPr,ho,hc⟩
              have HlastP:=zaa hlastP;clear hlastP;by_cases hz:m2=0
              · subst hz;have hno:∀ k,S k=true->M r k=true:=ztn hnk (uh HSk) (by omega);have hms:=zg3 hno;have HP:=zaa (uh HlastP LO H wD (by rw[hms] at h4 ⊢;exact h4) hf4 hFr (λ_ _=>rfl) (.inr ⟨rfl,hno⟩));clear hno hms h4 hf4 hFr hm2 hMn HlastP hF4;go_wp2
                go_end0
                exact uh HP
              · have hpos:(0:Int)<(m2:Int):=by omega
                have hcn:=ztT hG hm2;rw[<- zpx] at hcn;have hcm:=ztU hG hMn;have hex:=ztl (M:=M) (r:=r) (S:=S) (by omega);obtain⟨cO,hcO⟩:∃ c,c=zeo G (ctW M) G.prods.length:=⟨_,rfl⟩;obtain⟨cN,hcN⟩:∃ c,c=zeo G (ctW (zce M r S)) G.prods.length:=⟨_,rfl⟩;rw[<- hcO] at h4 hcn;rw[<- hcN] at hcn hcm;have HcN:=zaa hcN;clear hcO hcN;have h5:=zbs (zwS h4 cN) (w':=(wD.setCell ⟨sb,3,none⟩ (.int .i64 (cN:Int))).drew) (zap (zsY _ _) 1);obtain⟨nad,ncd,fad,fcd,oad,ocd,rcd,hcbxd,hRcd,hgmd,hBwd,hRBd,-,-,hOwd⟩:=h4.cl;obtain⟨ob,ooff,owa,owc,rfl,hRob,hoc,hor⟩:=hOwd r hrn;have s0:=zac h4.box 0 rfl;have s2:=zac h4.box 2 rfl;have s3:=zac h4.box 3 rfl;have c3:=zac hcbxd 3 rfl;have z3:=Wk.frozen_block h4.box 3;have hrnI:(r:Int)<(G.nr:Int):=by omega
                obtain⟨ol,hol⟩:∃ ol,ol=(zfA G r).length:=⟨_,rfl⟩;rw[<- hol] at hcn hoc;obtain⟨pr,hpr⟩:∃ pr,pr=m2 * ol:=⟨_,rfl⟩;have hprI:(m2:Int) * (ol:Int)=(pr:Int):=by rw[hpr,Int.natCast_mul]
                rw[<- hpr] at hcn;have hwm:IntKind.i64.wrap ((m2:Int) * (ol:Int))=(pr:Int):=by rw[hprI,IntKind.wrap_i64];omega
                have hwa:IntKind.i64.wrap ((cO:Int)+(pr:Int))=(cN:Int):=by rw[hcn,IntKind.wrap_i64];omega
                have hfs:Fr (λk=>k=sb) wD.drew (wD.drew.setCell ⟨sb,3,none⟩ (.int .i64 (cN:Int))):=zaD (zax (λk=>k=sb) wD.drew) (p:=⟨sb,3,none⟩) rfl _
                have HS12:Hid ((wD.drew.setCell ⟨sb,3,none⟩ (.int .i64 (cN:Int))).cell? ⟨sb,0,none⟩=some (.pointer (some ⟨cb,0,none⟩))/\(wD.drew.setCell ⟨sb,3,none⟩ (.int .i64 (cN:Int))).cell? ⟨cb,3,none⟩=some (.slice (some ⟨ob,ooff,none⟩) G.nr ocd)/\(wD.drew.setCell ⟨sb,3,none⟩ (.int .i64 (cN:Int))).cell? ⟨ob,ooff+r,none⟩=some (.slice owa ol owc)) :=
                  zaa ⟨zac h5.box 0 rfl,(zsL (hfs.2.1 cb (zsQ wD _ c3) (λe=>h4.nR.1 (e▸hRcd)))).trans c3,(zsL (hfs.2.1 ob (zsQ wD _ hoc) (λe=>h4.nR.1 (e▸hRob)))).trans hoc⟩
                clear hfs;have t2:=zac h5.box 2 rfl;have HP5:=zaa (push_h lb LO (hF H) r 0 (by omega) ⟨by decide,by decide⟩ _ h5.ls);have Hhex:=zaa hex;have Hh4:=zaa h4;have Hh5:=zaa h5;have Hf4:=zaa hf4;have HFr:=zaa hFr;have Hcn:=zaa hcn;have Hcm:=zaa hcm;clear hex h4 h5 hf4 hFr hm2 hMn hF4 hcbxd hRcd hgmd hBwd hRBd hOwd hor hcn hcm;clear hol hnk hnk2 hpr hprI
                go_upto_if 88 with fail
                have hd:decide (0<m2)=true:=decide_eq_true (by omega);clear hpos hz;refine wp_cond_split rfl (λ_=>?_) (λh9=>by rw[hd] at h9;cases h9);refine wp_seq_k ?_;intro K9 hK9;refine wp_region_held_drew (S:=(λW:World=>W.cell? ⟨sb,0,none⟩=some (.pointer (some ⟨cb,0,none⟩))/\W.cell? ⟨cb,3,none⟩=some (.slice (some ⟨ob,ooff,none⟩) G.nr ocd)/\W.cell? ⟨ob,ooff+r,none⟩=some (.slice owa ol owc))) (by kernel_rfl) (⟨s0,c3,hoc⟩) (λhZ=>?_);refine zad 0 89 rfl rfl hZ (λw ⟨k0,k1,k2⟩=>by go_simp;try rfl) ?_;simp only[Act.put,zsA,zsB,zsC];refine zad 1 90 rfl rfl hZ (λw ⟨k0,k1,k2⟩=>by go_simp;try rfl) ?_;simp only[Act.put,zsA,zsB,zsC];refine zad 2 91 rfl rfl hZ (λw ⟨k0,k1,k2⟩=>by go_simp;try rfl) ?_;simp only[Act.put,zsA,zsB,zsC];refine zad 4 93 rfl rfl hZ (λw ⟨k0,k1,k2⟩=>by go_simp;try rfl) ?_;simp only[Act.put,zsA,zsB,zsC];refine zad 5 94 rfl rfl hZ (λw ⟨k0,k1,k2⟩=>by go_simp;try rfl) ?_;simp only[Act.put,zsA,zsB,zsC];refine zad 6 95 rfl rfl hZ (λw ⟨k0,k1,k2⟩=>by go_simp;try rfl) ?_;simp only[Act.put,zsA,zsB,zsC];refine zad 7 96 rfl rfl hZ (λw ⟨k0,k1,k2⟩=>by go_simp;try rfl) ?_;simp only[Act.put,zsA,zsB,zsC];refine zad 8 97 rfl rfl hZ (λw ⟨k0,k1,k2⟩=>by go_simp;try rfl) ?_;simp only[Act.put,zsA,zsB,zsC];refine zad 9 98 rfl rfl hZ (λw ⟨k0,k1,k2⟩=>by go_simp;try rfl) ?_;simp only[Act.put,zsA,zsB,zsC];refine zad 10 99 rfl rfl hZ (λw ⟨k0,k1,k2⟩=>by go_simp;try rfl) ?_;simp only[Act.put,zsA,zsB,zsC];refine zad 11 100 rfl rfl hZ (λw ⟨k0,k1,k2⟩=>by go_simp;try rfl) ?_;simp only[Act.put,zsA,zsB,zsC];refine zad 12 101 rfl rfl hZ (λw ⟨k0,k1,k2⟩=>by go_simp;try rfl) ?_;simp only[Act.put,zsA,zsB,zsC];refine zad 13 102 rfl rfl hZ (λw ⟨k0,k1,k2⟩=>by go_simp;try rfl) ?_;simp only[Act.put,zsA,zsB,zsC];refine zad 14 103 rfl rfl hZ (λw ⟨k0,k1,k2⟩=>by go_simp;try rfl) ?_;simp only[Act.put,zsA,zsB,zsC];refine zad 15 104 rfl rfl hZ (λw ⟨k0,k1,k2⟩=>by go_simp;try rfl) ?_;simp only[Act.put,zsA,zsB,zsC];refine zad 16 105 rfl rfl hZ (λw ⟨k0,k1,k2⟩=>by go_simp;try rfl) ?_;simp only[Act.put,zsA,zsB,zsC];refine zai 3 rfl λK hK=>?_;go_simp;go_wp2_with fail;refine hK.out _ _ (hZ) (λhZ=>?_);clear hK K;refine zad 17 106 rfl rfl hZ (λw ⟨k0,k1,k2⟩=>by go_simp;try rfl) ?_;simp only[Act.put,zsA,zsB,zsC];refine zad 18 107 rfl rfl hZ (λw ⟨k0,k1,k2⟩=>by go_simp;try rfl) ?_;simp only[Act.put,zsA,zsB,zsC];refine zad 19 108 rfl rfl hZ (λw ⟨k0,k1,k2⟩=>by go_simp;try rfl) ?_;simp only[Act.put,zsA,zsB,zsC];refine zai 20 rfl λK hK=>?_;go_simp;go_wp2_with fail;refine hK.out _ _ (uh HS12) (λhZ=>?_);clear hK K;refine wpAnyH_done (by kernel_rfl) ?_ _;clear HS12 hZ s0 s2 s3 c3 hoc z3;go_wp2_with (go_at_call 118;refine(uh HP5).mono ?_;rintro e W6 ⟨⟨b,rfl⟩,hf6,LO6,hl6,hO6⟩;have H6:=zaa (And.intro hf6 (And.intro hl6 hO6));clear hf6 hl6 hO6);obtain⟨hf6,hl6,hO6⟩:=uh H6;have h7:=zt5 (uh Hh5) hf6 hl6 hO6;have hf4:=uh Hf4;have hff:=uh Hf;have e4:Fr (λk=>k=tb\/(B0<=k/\¬ R k)) wD (wD.setCell ⟨sb,3,none⟩ (.int .i64 (cN:Int))).drew:=zcK (zaD (zax (λk=>k=tb\/(B0<=k/\¬ R k)) wD) (p:=⟨sb,3,none⟩) (.inr ⟨hff.sb,h.nR.1⟩) _) (zae (zap (zsY _ _) 1));have hz5:=e4.1;have hzD:=(uh HFr).1;rw[uh HcN] at h7
                go_end0
                refine uh HlastP LO6 (upd H r) W6 h7 ⟨hf4.sb,hf4.mb,hf4.oo,λk hk=>?_⟩ (zcK (uh HFr) (zcK e4 (zaj hf6 (λk _ ho=>.inr ⟨hf4.lo k ho,λhR=>((uh Hh4).lo k ho).1 (hRR k hR)⟩)))) (λq hq=>?_) (.inl ⟨zgg H r,uh Hhex⟩)
                · rcases hO6 k hk with h9 | h9
                  · exact hf4.lo k h9
                  · omega
                · unfold upd;rw[if_neg hq]
end Go.Proofs.YtieciibnajeibaaGreatDoor

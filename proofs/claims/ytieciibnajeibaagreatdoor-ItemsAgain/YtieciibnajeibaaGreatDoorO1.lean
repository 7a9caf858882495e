import Derived.Test.YtieciibnajeibaaGreatDoorP0
import Derived.Lib.SmallJoins
set_option maxHeartbeats 8000000
set_option maxRecDepth 100000
namespace Go.Proofs.YtieciibnajeibaaGreatDoor
open Go.ChangeShapes Go.WideShapes Go.ChangeAt Go.RowKit
def WOk{H:Type}(d:DataW H)(t:TypeId):Prop:=∀ n ∈ d.weights Tryz.prog t,n<=reachBytes
theorem zgA{H:Type}{P:Program}{e:TypeId}{n:Nat}:∀ {l:List (DataW H)} {d:DataW H},d ∈ l->n ∈ d.weights P e->n ∈ DataW.weightsAll P e l
 | [],_,h,_=>by cases h
 | x::xs,d,h,hn=>by
   unfold DataW.weightsAll;rw[List.mem_append];rcases List.mem_cons.1 h with rfl | h
   ·exact .inl hn
   ·exact .inr (zgA h hn)
theorem zoz{H:Type}{t e:TypeId}(hu:Tryz.prog.underlying t=some (.slice e)){elems spare:List (DataW H)}(h:WOk (.slice elems spare) t):(elems.length+spare.length) * Tryz.prog.bytesOf e<=reachBytes/\∀ d,d ∈ elems->WOk d e:=by
 unfold WOk at h ⊢;simp only[DataW.weights,hu] at h;refine⟨h _ (by simp),λd hd n hn=>h n ?_⟩;exact List.mem_cons_of_mem _ (List.mem_append_left _ (zgA hd hn))
theorem zkW{H:Type}{t:TypeId}{fs:Array Field}(hu:Tryz.prog.underlying t=some (.struct fs)){parts:List (DataW H)}(h:WOk (.agg parts) t){j:Nat}{u:TypeId}{d:DataW H}(ht:(fs.toList.map (·.type))[j]? = some u)(hd:parts[j]? = some d):WOk d u:=by
 unfold WOk at h ⊢;simp only[DataW.weights,hu] at h;exact λn hn=>h n (DataW.weights_mem_each ht hd n hn)
theorem zfZ:Tryz.prog.cellsOf 3=1:=by kernel_rfl
theorem zuR:Tryz.prog.cellsOf 9=1:=by kernel_rfl
theorem zwX:Tryz.prog.cellsOf 50=1:=by kernel_rfl
theorem zwW:Tryz.prog.cellsOf 112=1:=by kernel_rfl
theorem zlP:Tryz.prog.cellsOf 114=4:=by kernel_rfl
theorem zra:Tryz.prog.cellsOf 116=7:=by kernel_rfl
theorem zq9:Tryz.prog.cellsOf 202=2:=by kernel_rfl
theorem bytes3:Tryz.prog.bytesOf 3=8:=by kernel_rfl
theorem bytes9:Tryz.prog.bytesOf 9=16:=by kernel_rfl
theorem zw7:Tryz.prog.bytesOf 114=56:=by kernel_rfl
theorem zw6:Tryz.prog.bytesOf 116=96:=by kernel_rfl
theorem zw5:Tryz.prog.bytesOf 202=16:=by kernel_rfl
section
variable {H:Type} {enc:TypeId × Value->H} {W:World}
theorem zee{t e:TypeId}{α:Type}[Inhabited α]{n:Nat}(ht:Tryz.prog.underlying t=some (.slice e))(R:α->List Value->Prop)(hn:Tryz.prog.cellsOf e=n)(hn0:0<n)
 {fuel:Nat} {cs:List Value} {y:DataW H × List MemPlace} (hf:DataW.trod enc Tryz.prog W 0 (λ_=>true) true fuel t cs=some y) (hw:WOk y.1 t)
 (each:∀ k cs' y',k<fuel->DataW.trod enc Tryz.prog W 0 (λ_=>true) true k e cs'=some y'->WOk y'.1 e->∃ x:α,R x cs') :
 ∃ a len cap,∃ q:Nat->α,cs=[.slice a len cap]/\len<=cap/\len * Tryz.prog.bytesOf e<=reachBytes/\(len=0\/∃ b off,a=some ⟨b,off,none⟩/\b<W.heap.size/\∀ i,i<len->∃ cs',cs'.length=n/\R (q i) cs'/\∀ j u,cs'[j]? = some u->W.cell? ⟨b,off+i * n+j,none⟩=some u):=by
 rcases DataW.trod_slice ht hf with ⟨hcs,-⟩ | ⟨a,len,cap,elems,rest,k,rfl,hcs,hy,-,hl,-,hel,heach,-,-⟩
 ·exact⟨none,0,0,λ_=>default,hcs,zsG _,by simp,.inl rfl⟩
 · rw [hy] at hw;obtain⟨hb,hwe⟩:=zoz ht hw;have hlen:len * Tryz.prog.bytesOf e<=reachBytes:=by
     refine zsy ?_ hb;rw[List.length_map,hel];exact Nat.mul_le_mul_right _ (Nat.le_add_right _ _)
   have key:∀ i,i<len->∃ x:α,∃ cs',cs'.length=n/\R x cs'/\∀ j,j<n->W.cell? ((a.add (i * n)).add j)=cs'[j]?:=by
     intro i hi;have h1:=heach i hi;rw[zsF (by omega),hn] at h1;obtain⟨cs',h2,h3⟩:=Option.bind_eq_some_iff.1 h1;obtain⟨-,h4,h5⟩:=World.cells?_some h2;obtain⟨x,hx⟩:=each k cs' _ (Nat.lt_succ_self _) h3 (hwe _ (List.mem_map.2 ⟨_,List.getElem_mem (by omega),rfl⟩));exact⟨x,cs',h4,hx,h5⟩
   obtain⟨q,hq⟩:=Deep.choose_lt (α:=α) key;refine⟨some a,len,cap,q,hcs,hl,hlen,?_⟩;by_cases h0:len=0
   · exact .inl h0
   · right;obtain⟨b,off,spot⟩:=a;obtain⟨cs0,hl0,-,hc0⟩:=hq 0 (by omega);have hcell:=hc0 0 hn0;rw[zsF (by omega)] at hcell;have hspot:spot=none:=by simpa [Addr.add] using World.cell?_spot hcell
     subst hspot;have hblt:b<W.heap.size:=by
       have:=zsQ W _ hcell;rw[Deep.add_add,Go.WideShapes.add_plain] at this;exact this
     refine⟨b,off,rfl,hblt,λi hi=>?_⟩;obtain⟨cs',hl',hr',hc'⟩:=hq i hi;refine⟨cs',hl',hr',λj u hu=>?_⟩;have hj:j<n:=by
       have:=(zsP.1 hu).1;omega
     have:=hc' j hj;rw[Deep.add_add,Go.WideShapes.add_plain,hu] at this;rw[Nat.add_assoc];exact this
theorem zjZ{fuel:Nat}{cs:List Value}{y:DataW H × List MemPlace}(hf:DataW.trod enc Tryz.prog W 0 (λ_=>true) true fuel 50 cs=some y)(hw:WOk y.1 50) :
 ∃ a c,∃ l:List Int,cs=[.slice a l.length c]/\NRow W.heap.size W a l/\l.length<=c/\l.length * 8<=reachBytes:=by
 obtain⟨a,len,cap,q,hcs,hl,hb,hrest⟩:=zee (α:=Int) Tryz.underlying50 (λx cs'=>cs'=[.int .i64 x]) zfZ (by decide) hf hw (λk cs' y' _ h _=>by
  obtain⟨z,e0,-⟩:=DataW.trod_int Tryz.underlying3 h
  exact⟨z,e0⟩)
 rw[bytes3] at hb;have hll:((List.range len).map q).length=len:=by simp
 refine⟨a,cap,(List.range len).map q,by rw[hll];exact hcs,?_,by rw[hll];exact hl,by rw[hll];exact hb⟩;rcases hrest with rfl | ⟨b,off,rfl,hblt,he⟩
 ·exact .inl rfl
 ·refine .inr ⟨b,off,rfl,hblt,λj hj=>?_⟩;rw[hll] at hj;obtain⟨cs',-,rfl,hc⟩:=he j hj;have e:((List.range len).map q).getD j 0=q j:=by rw[zsE,List.getElem?_map,List.getElem?_range hj];rfl
  rw[e];have:=hc 0 _ rfl;rw[Nat.mul_one,Nat.add_zero] at this;exact this
theorem zjY{fuel:Nat}{cs:List Value}{y:DataW H × List MemPlace}(hf:DataW.trod enc Tryz.prog W 0 (λ_=>true) true fuel 22 cs=some y)(hw:WOk y.1 22) :
 ∃ a c,∃ l:List (List UInt8),cs=[.slice a l.length c]/\zxt W.heap.size W a l/\l.length<=c/\l.length * 16<=reachBytes:=by
 obtain⟨a,len,cap,q,hcs,hl,hb,hrest⟩:=zee (α:=List UInt8) Tryz.underlying22 (λx cs'=>cs'=[.string (bs x)]) zuR (by decide) hf hw (λk cs' y' _ h _=>by
  obtain⟨z,e0,-⟩:=DataW.trod_string Tryz.underlying9 h
  exact⟨z.data.toList,e0⟩)
 rw[bytes9] at hb;have hll:((List.range len).map q).length=len:=by simp
 refine⟨a,cap,(List.range len).map q,by rw[hll];exact hcs,?_,by rw[hll];exact hl,by rw[hll];exact hb⟩;rcases hrest with rfl | ⟨b,off,rfl,hblt,he⟩
 ·exact .inl rfl
 ·refine .inr ⟨b,off,rfl,hblt,λj hj=>?_⟩;rw[hll] at hj;obtain⟨cs',-,rfl,hc⟩:=he j hj;have e:((List.range len).map q).getD j []=q j:=by rw[zsE,List.getElem?_map,List.getElem?_range hj];rfl
  rw[e];have:=hc 0 _ rfl;rw[Nat.mul_one,Nat.add_zero] at this;exact this
theorem zpA{fuel:Nat}{cs:List Value}{y:DataW H × List MemPlace}(hf:DataW.trod enc Tryz.prog W 0 (λ_=>true) true fuel 23 cs=some y)(hw:WOk y.1 23) :
 ∃ a c,∃ l:List (Int × Int),cs=[.slice a l.length c]/\zxH W.heap.size W a l/\l.length<=c/\l.length * 16<=reachBytes:=by
 obtain⟨a,len,cap,q,hcs,hl,hb,hrest⟩:=zee (α:=Int × Int) Tryz.underlying23 (λx cs'=>cs'=[.int .i64 x.1,.int .i64 x.2]) zq9 (by decide) hf hw (λk cs' y' _ h _=>by
  obtain⟨xs,m,-,-,hlen,hxl,hf'⟩:=DataW.trod_struct Tryz.underlying202 h;rw[zq9] at hlen
  match cs',hlen with
  | [v0,v1],_ =>
    have hx2:xs.length=2:=by simpa using hxl
    have g0:DataW.trod enc Tryz.prog W 0 (λ_=>true) true m 3 (List.take (Tryz.prog.cellsOf 3) [v0,v1])=xs[0]?:=hf' 0 _ rfl;have g1:DataW.trod enc Tryz.prog W 0 (λ_=>true) true m 3 (List.take (Tryz.prog.cellsOf 3) [v1])=xs[1]?:=hf' 1 _ rfl;rw[zfZ,zsF (by omega)] at g0 g1;obtain⟨n0,e0,-⟩:=DataW.trod_int Tryz.underlying3 g0;obtain⟨n1,e1,-⟩:=DataW.trod_int Tryz.underlying3 g1;simp at e0 e1;subst e0 e1
    exact⟨(n0,n1),rfl⟩)
 rw[zw5] at hb;have hll:((List.range len).map q).length=len:=by simp
 refine⟨a,cap,(List.range len).map q,by rw[hll];exact hcs,?_,by rw[hll];exact hl,by rw[hll];exact hb⟩;rcases hrest with rfl | ⟨b,off,rfl,hblt,he⟩
 ·exact .inl rfl
 ·refine .inr ⟨b,off,rfl,hblt,λj hj=>?_⟩;rw[hll] at hj;obtain⟨cs',-,rfl,hc⟩:=he j hj;have e:((List.range len).map q).getD j (0,0)=q j:=by rw[zsE,List.getElem?_map,List.getElem?_range hj];rfl
  rw[e];exact⟨hc 0 _ rfl,hc 1 _ rfl⟩
structure A4 where
 t:Ac
 v0:Value
 v1:Value
 v2:Value
 v3:Value
instance:Inhabited A4:=⟨⟨ac0,.slice none 0 0,.slice none 0 0,.slice none 0 0,.slice none 0 0⟩⟩
theorem zil{B:Nat}{w:World}:∀ (L:List A4),(∀ x,x ∈ L->zhx B w x.t x.v0 x.v1 x.v2 x.v3)->zjx B w (L.map (·.t)) (L.flatMap λx=>[x.v0,x.v1,x.v2,x.v3])
 | [],_=>by unfold zjx;rfl
 | x::xs,h=>by
   rw[List.map_cons];unfold zjx;exact⟨x.v0,x.v1,x.v2,x.v3,xs.flatMap λx=>[x.v0,x.v1,x.v2,x.v3],rfl,h x (by simp),zil xs (λy hy=>h y (List.mem_cons_of_mem _ hy))⟩
theorem zkt:∀ (L:List A4) (j:Nat) (u:Value),(L.flatMap λx=>[x.v0,x.v1,x.v2,x.v3])[j]? = some u->∃ i r x,j=i * 4+r/\L[i]? = some x/\[x.v0,x.v1,x.v2,x.v3][r]? = some u
 | [],j,u,h=>by simp at h
 | x::xs,j,u,h=>by
   rw[List.flatMap_cons] at h;by_cases hj:j<4
   ·rw[List.getElem?_append_left (by simpa using hj)] at h;exact⟨0,j,x,by omega,rfl,h⟩
   ·rw[List.getElem?_append_right (by simp;omega)] at h;obtain⟨i,r,x',h1,h2,h3⟩:=zkt xs (j - 4) u h;exact⟨i+1,r,x',by omega,by simpa using h2,h3⟩
theorem zsx:∀ (fuel:Nat) (cs:List Value) (y:DataW H × List MemPlace),DataW.trod enc Tryz.prog W 0 (λ_=>true) true fuel 114 cs=some y->WOk y.1 114->∃ x:A4,cs=[x.v0,x.v1,x.v2,x.v3]/\zhx W.heap.size W x.t x.v0 x.v1 x.v2 x.v3/\zdw x.t:=by
 intro fuel
 induction fuel using Nat.strongRecOn with
 | _ fuel ih =>
   intro cs y h hw;obtain⟨xs,m,rfl,hy,hlen,hxl,hf'⟩:=DataW.trod_struct Tryz.underlying114 h;rw[zlP] at hlen
   match cs,hlen with
   | [v0,v1,v2,v3],_ =>
     have hx4:xs.length=4:=by simpa using hxl
     have g0:DataW.trod enc Tryz.prog W 0 (λ_=>true) true m 3 (List.take (Tryz.prog.cellsOf 3) [v0,v1,v2,v3])=xs[0]?:=hf' 0 _ rfl;have g1:DataW.trod enc Tryz.prog W 0 (λ_=>true) true m 3 (List.take (Tryz.prog.cellsOf 3) [v1,v2,v3])=xs[1]?:=hf' 1 _ rfl;have g2:DataW.trod enc Tryz.prog W 0 (λ_=>true) true m 9 (List.take (Tryz.prog.cellsOf 9) [v2,v3])=xs[2]?:=hf' 2 _ rfl;have g3:DataW.trod enc Tryz.prog W 0 (λ_=>true) true m 112 (List.take (Tryz.prog.cellsOf 112) [v3])=xs[3]?:=hf' 3 _ rfl;rw[zfZ,zsF (by omega)] at g0 g1;rw[zuR,zsF (by omega)] at g2;rw[zwW,zsF (by omega)] at g3;obtain⟨n0,e0,-⟩:=DataW.trod_int Tryz.underlying3 g0;obtain⟨n1,e1,-⟩:=DataW.trod_int Tryz.underlying3 g1;obtain⟨s2,e2,-⟩:=DataW.trod_string Tryz.underlying9 g2;simp at e0 e1 e2;subst e0 e1 e2;have hw3:WOk (xs[3]).1 112:=by
      rw[hy] at hw;refine zkW Tryz.underlying114 hw (j:=3) rfl ?_;rw[List.getElem?_map,zsF (by omega)];rfl
     obtain⟨a,len,cap,q,hcs,hl,hb,hrest⟩:=zee (α:=A4) Tryz.underlying112 (λx cs'=>cs'=[x.v0,x.v1,x.v2,x.v3]/\zhx W.heap.size W x.t x.v0 x.v1 x.v2 x.v3/\zdw x.t) zlP (by decide) g3 hw3 (λk cs' y' hk h' hw'=>ih k (by omega) cs' y' h' hw');simp at hcs;subst hcs;rw[zw7] at hb;have hll:(((List.range len).map q).map (·.t)).length=len:=by simp
     have hlen9:len<=281474976710656:=by unfold reachBytes at hb;omega
     have hall:len=0\/∃ b off,a=some ⟨b,off,none⟩/\b<W.heap.size/\∀ i,i<len->(zhx W.heap.size W (q i).t (q i).v0 (q i).v1 (q i).v2 (q i).v3/\zdw (q i).t)/\∀ r u,[(q i).v0,(q i).v1,(q i).v2,(q i).v3][r]? = some u->W.cell? ⟨b,off+i * 4+r,none⟩=some u:=by
      rcases hrest with h0 | ⟨b,off,h1,h2,h3⟩
      ·exact .inl h0
      ·refine .inr ⟨b,off,h1,h2,λi hi=>?_⟩;obtain⟨cs',-,⟨rfl,h4⟩,h5⟩:=h3 i hi;exact⟨h4,h5⟩
     have hmem:∀ x,x ∈ (List.range len).map q->∃ i,i<len/\x=q i:=λx hx=>by
      obtain⟨i,hi,rfl⟩:=List.mem_map.1 hx;exact⟨i,List.mem_range.1 hi,rfl⟩
     refine⟨⟨.mk n0 n1 s2.data.toList (((List.range len).map q).map (·.t)),.int .i64 n0,.int .i64 n1,.string s2,.slice a len cap⟩,rfl,?_,?_⟩
     ·unfold zhx;refine⟨rfl,rfl,rfl,a,cap,((List.range len).map q).flatMap λx=>[x.v0,x.v1,x.v2,x.v3],by rw[hll],zil _ (λx hx=>?_),?_⟩
      ·obtain⟨i,hi,rfl⟩:=hmem x hx;rcases hall with h0 | ⟨b,off,-,-,h3⟩
       ·omega
       ·exact(h3 i hi).1.1
      ·rcases hall with h0 | ⟨b,off,h1,h2,h3⟩
       ·left;rw[h0];rfl
       ·refine .inr ⟨b,off,h1,h2,λj u hu=>?_⟩;obtain⟨i,r,x,rfl,hx,hr⟩:=zkt _ _ _ hu;rw[List.getElem?_map] at hx;obtain⟨i',hi',rfl⟩:=Option.map_eq_some_iff.1 hx;have hil:i<len:=by
         have:=(zsP.1 hi').1;simpa using this
        rw[List.getElem?_range hil] at hi'
        cases hi'
        rw[<- Nat.add_assoc];exact(h3 i hil).2 r u hr
     ·unfold zdw;refine⟨by rw[hll];exact hlen9,zhr _ (λt ht=>?_)⟩;obtain⟨x,hx,rfl⟩:=List.mem_map.1 ht;obtain⟨i,hi,rfl⟩:=hmem x hx;rcases hall with h0 | ⟨b,off,-,-,h3⟩
      ·omega
      ·exact(h3 i hi).1.2
instance:Inhabited Pd:=⟨pd0⟩
theorem znH{fuel:Nat}{cs:List Value}{y:DataW H × List MemPlace}(hf:DataW.trod enc Tryz.prog W 0 (λ_=>true) true fuel 24 cs=some y)(hw:WOk y.1 24) :
 ∃ a c,∃ l:List Pd,cs=[.slice a l.length c]/\zxG W.heap.size W a l/\l.length<=c/\l.length * 96<=reachBytes/\∀ p,p ∈ l->p.right.length * 8<=140737488351232/\zdw p.act:=by
 obtain⟨a,len,cap,q,hcs,hl,hb,hrest⟩:=zee (α:=Pd) Tryz.underlying24 (λp cs'=>∃ v0 v1 v2 v3 v4 v5 v6,cs'=[v0,v1,v2,v3,v4,v5,v6]/\PdAt W.heap.size W p v0 v1 v2 v3 v4 v5 v6/\p.right.length * 8<=140737488351232/\zdw p.act) zra (by decide) hf hw (λk cs' y' _ h hw'=>by
  obtain⟨xs,m,-,hy,hlen,hxl,hf'⟩:=DataW.trod_struct Tryz.underlying116 h;rw[zra] at hlen
  match cs',hlen with
  | [v0,v1,v2,v3,v4,v5,v6],_ =>
    have hx4:xs.length=4:=by simpa using hxl
    have g0:DataW.trod enc Tryz.prog W 0 (λ_=>true) true m 3 (List.take (Tryz.prog.cellsOf 3) [v0,v1,v2,v3,v4,v5,v6])=xs[0]?:=hf' 0 _ rfl;have g1:DataW.trod enc Tryz.prog W 0 (λ_=>true) true m 50 (List.take (Tryz.prog.cellsOf 50) [v1,v2,v3,v4,v5,v6])=xs[1]?:=hf' 1 _ rfl;have g2:DataW.trod enc Tryz.prog W 0 (λ_=>true) true m 3 (List.take (Tryz.prog.cellsOf 3) [v2,v3,v4,v5,v6])=xs[2]?:=hf' 2 _ rfl;have g3:DataW.trod enc Tryz.prog W 0 (λ_=>true) true m 114 (List.take (Tryz.prog.cellsOf 114) [v3,v4,v5,v6])=xs[3]?:=hf' 3 _ rfl;rw[zfZ,zsF (by omega)] at g0 g2;rw[zwX,zsF (by omega)] at g1;rw[zlP,zsF (by omega)] at g3;have hwj:∀ j (hj:j<4) (u:TypeId),([3,50,3,114]:List TypeId)[j]? = some u->WOk (xs[j]'(by omega)).1 u:=λj hj u hu=>by
     rw[hy] at hw';refine zkW Tryz.underlying116 hw' (j:=j) hu ?_;rw[List.getElem?_map,zsF (by omega)];rfl
    obtain⟨n0,e0,-⟩:=DataW.trod_int Tryz.underlying3 g0;obtain⟨n2,e2,-⟩:=DataW.trod_int Tryz.underlying3 g2;obtain⟨ra,rc,rl,e1,hrow,hrc,hrb⟩:=zjZ g1 (hwj 1 (by omega) 50 rfl);obtain⟨x,e3,hA,hS⟩:=zsx _ _ _ g3 (hwj 3 (by omega) 114 rfl);simp at e0 e1 e2 e3;obtain⟨rfl,rfl,rfl,rfl⟩:=e3;subst e0 e1 e2;unfold reachBytes at hrb
    exact⟨⟨n0,rl,n2,x.t⟩,_,_,_,_,_,_,_,rfl,⟨rfl,⟨ra,rc,rfl,hrow,hrc⟩,rfl,hA⟩,by show rl.length * 8<=_;omega,hS⟩)
 rw[zw6] at hb;have hll:((List.range len).map q).length=len:=by simp
 refine⟨a,cap,(List.range len).map q,by rw[hll];exact hcs,?_,by rw[hll];exact hl,by rw[hll];exact hb,λp hp=>?_⟩
 ·rcases hrest with rfl | ⟨b,off,rfl,hblt,he⟩
  ·exact .inl rfl
  ·refine .inr ⟨b,off,rfl,hblt,λj hj=>?_⟩;rw[hll] at hj;obtain⟨cs',-,⟨v0,v1,v2,v3,v4,v5,v6,rfl,hp,-⟩,hc⟩:=he j hj;have e:((List.range len).map q).getD j pd0=q j:=by rw[zsE,List.getElem?_map,List.getElem?_range hj];rfl
   rw[e];exact⟨v0,v1,v2,v3,v4,v5,v6,hp,hc 0 _ rfl,hc 1 _ rfl,hc 2 _ rfl,hc 3 _ rfl,hc 4 _ rfl,hc 5 _ rfl,hc 6 _ rfl⟩
 ·obtain⟨i,hi,rfl⟩:=List.mem_map.1 hp;have hi:=List.mem_range.1 hi;rcases hrest with h0 | ⟨b,off,rfl,hblt,he⟩
  ·omega
  ·obtain⟨cs',-,⟨v0,v1,v2,v3,v4,v5,v6,rfl,hp,h1,h2⟩,hc⟩:=he i hi;exact⟨h1,h2⟩
end
end Go.Proofs.YtieciibnajeibaaGreatDoor

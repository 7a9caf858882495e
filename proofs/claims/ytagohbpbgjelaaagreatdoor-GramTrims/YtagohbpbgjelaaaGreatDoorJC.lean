/- While what follows a production's rules is gathered: where it lies. -/
import Derived.Test.YtagohbpbgjelaaaGreatDoorGY
import Derived.Test.YtagohbpbgjelaaaGreatDoorJA
import Derived.Test.YtagohbpbgjelaaaGreatDoorJB
namespace Go.Proofs.YtagohbpbgjelaaaGreatDoor
open Go.RowKit Go.Shelf

theorem zoI {B:Nat} {w w':World} {tb n:Nat} {A:Nat→Nat} {OO:Nat→Nat→Prop} {rep:Nat→Nat} {C:Nat→Int→Bool} (h:SetsV B w tb n A OO rep C) (hB:B≤w.heap.size) {u:Nat} (hu:u<n) (hf:Fr (OO u) w w') {O2:Nat→Prop} {f:Int→Bool} (h2:SetN w' (A u) O2 f) (hO2:∀ k,O2 k→OO u k∨w.heap.size≤k):SetsV B w' tb n A (fun r=>if r=u then O2 else OO r) rep (upC C u f):=by
 obtain⟨cs,h3,h4⟩:=h.row
 refine⟨⟨cs,(hf.2.1 tb (zb0 h).1 (fun ho=>(zb0 h).2 ((h.set u hu).ty tb ho))).trans h3,h4⟩,h.tbB,h.rp,fun r hr=>?_,fun r hr k=>?_,fun r s hr hs hrs k=>?_⟩
 ·by_cases e:r=u
  ·subst e;rw[if_pos rfl,zbq];exact h2
  ·rw[if_neg e,zcu e];exact zcs (h.set r hr) hf (fun k hk ho=>h.ap r u hr hu e k hk ho)
 ·by_cases e:r=u
  ·subst e;rw[if_pos rfl];intro hk;exact(hO2 k hk).elim (h.bl r hr k) (fun h=>by omega)
  ·rw[if_neg e];exact h.bl r hr k
 ·by_cases e:r=u
  ·rw[if_pos e,if_neg (fun e2=>hrs (e.trans e2.symm))]
   intro hk hks
   rcases hO2 k hk with h5 | h5
   ·exact h.ap u s hu hs (fun e2=>hrs (e.trans e2)) k h5 hks
   ·have:=zbT (h.set s hs) hks;omega
  ·rw[if_neg e]
   by_cases e2:s=u
   ·rw[if_pos e2]
    intro hk hks
    rcases hO2 k hks with h5 | h5
    ·exact h.ap r u hr hu e k hk h5
    ·have:=zbT (h.set r hr) hk;omega
   ·rw[if_neg e2];exact h.ap r s hr hs hrs k
theorem zd6 {B:Nat} {w w':World} {tb n:Nat} {A:Nat→Nat} {OO:Nat→Nat→Prop} {rep:Nat→Nat} {C:Nat→Int→Bool} (h:SetsV B w tb n A OO rep C) {O:Nat→Prop} (hf:Fr O w w') (h1:¬ O tb) (h2:∀ r,r<n→∀ k,O k→¬ OO r k):SetsV B w' tb n A OO rep C:=by
 obtain⟨cs,h3,h4⟩:=h.row
 exact⟨⟨cs,(hf.2.1 tb (zb0 h).1 h1).trans h3,h4⟩,h.tbB,h.rp,fun r hr=>zcs (h.set r hr) hf (fun k hk ho=>h2 r hr k ho hk),h.bl,h.ap⟩
structure FwK where
 M:Nat
 n:Nat
 tb:Nat
 wb:Nat
 Bs:Nat
 A:Nat→Nat
 bsv:Value
 bx:Nat
 px:Nat
 sx:Nat
 wx:Nat
 hx:Nat
 ex:Nat
 bv:Value
 pcs:Array Value
 sv:Value
 wv:Value
structure FwI (K:FwK) (C:Nat→Int→Bool) (W:Nat→List Nat) (S:Nat) (D:Int→Bool) (em:Bool) (w:World):Prop where
 st:∃ OO O,SetsV K.M w K.tb K.n K.A OO id C∧SetN w S O D∧(∀ k,O k→K.M≤k)∧∀ r,r<K.n→∀ k,O k→¬ OO r k
 tab:zhj K.M w K.wb K.n W
 bs:w.heap[K.Bs]? = some (.cells #[K.bsv] 27 (0,0))
 b1:w.heap[K.bx]? = some (.cells #[K.bv] 57 (0,0))
 b2:w.heap[K.px]? = some (.cells K.pcs 89 (0,0))
 b3:w.heap[K.sx]? = some (.cells #[K.sv] 62 (0,0))
 b4:w.heap[K.wx]? = some (.cells #[K.wv] 109 (0,0))
 b5:w.heap[K.hx]? = some (.cells #[.pointer (some ⟨S,0,none⟩)] 75 (0,0))
 b6:w.heap[K.ex]? = some (.cells #[.bool em] 4 (0,0))
 m5:K.M≤K.hx
 m6:K.M≤K.ex
 n1:K.wb≠K.Bs
 n2:K.tb≠K.hx
 sz:K.M≤w.heap.size
def Mv (K:FwK) (w:World) (k:Nat):Prop:=K.M≤k∧k≠K.Bs∧∃ cs t,w.heap[k]? = some (.cells cs t (0,0))
section
variable {K:FwK} {C:Nat→Int→Bool} {W:Nat→List Nat} {S:Nat} {D:Int→Bool} {em:Bool} {w w':World}
theorem zjK (h:FwI K C W S D em w) {O:Nat→Prop} (hf:Fr O w w') (hn:∀ k cs t,O k→w.heap[k]?≠some (.cells cs t (0,0))):FwI K C W S D em w':=by
 obtain⟨OO,O1,h1,h2,h3,h4⟩:=h.st
 have hk:∀ {k t:Nat} {cs:Array Value},w.heap[k]? = some (.cells cs t (0,0))→w'.heap[k]? = some (.cells cs t (0,0)):=fun {k t cs} hk=>(hf.2.1 k (Array.getElem?_eq_some_iff.1 hk).1 (fun ho=>hn _ _ _ ho hk)).trans hk
 refine⟨⟨OO,O1,zjl h1 hf (fun k _ ho=>⟨fun e=>?_,fun hs=>?_⟩),zcs h2 hf (fun k hk ho=>?_),h3,h4⟩,zfT h.tab hf (fun k cs t ho hk=>absurd hk (hn _ _ _ ho)),hk h.bs,hk h.b1,hk h.b2,hk h.b3,hk h.b4,hk h.b5,hk h.b6,h.m5,h.m6,h.n1,h.n2,Nat.le_trans h.sz hf.1⟩
 ·subst e
  obtain⟨cs,h5,-⟩:=h1.row
  exact hn _ _ _ ho h5
 ·obtain⟨cs,t,h5,-⟩:=hs.2
  exact hn _ _ _ ho h5
 ·obtain⟨cs,t,h5,-⟩:=h2.ty k hk
  exact hn _ _ _ ho h5
theorem zbL (h:FwI K C W S D em w) (hb:Below w.heap.size w w'):FwI K C W S D em w':=zjK (O:=fun _=>False) h (za1 hb) (fun _ _ _ h=>h.elim)
theorem zjJ (h:FwI K C W S D em w) {O:Nat→Prop} (hf:Fr O w w') (hO:∀ k,O k→zey w k):zhj K.M w' K.wb K.n W∧w'.heap[K.bx]? = some (.cells #[K.bv] 57 (0,0))∧w'.heap[K.px]? = some (.cells K.pcs 89 (0,0))∧w'.heap[K.sx]? = some (.cells #[K.sv] 62 (0,0))∧w'.heap[K.wx]? = some (.cells #[K.wv] 109 (0,0))∧w'.heap[K.hx]? = some (.cells #[.pointer (some ⟨S,0,none⟩)] 75 (0,0))∧w'.heap[K.ex]? = some (.cells #[.bool em] 4 (0,0))∧w'.heap[K.Bs]? = some (.cells #[K.bsv] 27 (0,0))∧K.M≤w'.heap.size:=by
 have hk:∀ {k t:Nat} {cs:Array Value},w.heap[k]? = some (.cells cs t (0,0))→t≠126→t≠129→w'.heap[k]? = some (.cells cs t (0,0)):=fun {k t cs} hk n1 n2=>(hf.2.1 k (Array.getElem?_eq_some_iff.1 hk).1 (fun ho=>zaL hk n1 n2 (hO _ ho))).trans hk
 refine⟨zfT h.tab hf (fun k cs t ho hk=>⟨fun e=>?_,fun e=>?_⟩),hk h.b1 (by decide) (by decide),hk h.b2 (by decide) (by decide),hk h.b3 (by decide) (by decide),hk h.b4 (by decide) (by decide),hk h.b5 (by decide) (by decide),hk h.b6 (by decide) (by decide),hk h.bs (by decide) (by decide),Nat.le_trans h.sz hf.1⟩
 ·subst e;exact zaL hk (by decide) (by decide) (hO _ ho)
 ·subst e;exact zaL hk (by decide) (by decide) (hO _ ho)
theorem zm8 (h:FwI K C W S D em w) {O:Nat→Prop} (hf:Fr O w w') (hO:∀ k,O k→zey w k) (hM:∀ k,O k→K.M≤k):Fr (Mv K w) w w' :=
 zbE hf (fun k _ ho=>⟨hM k ho,fun e=>by subst e;exact zaL h.bs (by decide) (by decide) (hO _ ho),by obtain⟨cs,t,h5,-⟩:=hO k ho;exact⟨cs,t,h5⟩⟩)
theorem zrc (h:FwI K C W S D em w) {y:Nat} (hy:y<K.n) :
 Calls Tryz.prog 94 #[.pointer (some ⟨K.A y,0,none⟩),.pointer (some ⟨S,0,none⟩)] w fun e w'=>(∃ c,e=.returned (.int .i64 c))∧FwI K (upC C y (orF (C y) D)) W S D em w'∧Fr (Mv K w) w w':=by
 obtain⟨OO,O1,h1,h2,h3,h4⟩:=h.st
 refine(znq (K.A y) S (OO y) O1 (C y) D w (h1.set y hy) h2 (fun k hk ho=>h4 y hy k hk ho)).mono ?_
 rintro e w' ⟨he,hf,O2,h5,hO2⟩
 have hty:=(h1.set y hy).ty
 obtain⟨r1,r2,r3,r4,r5,r6,r7,r8,r9⟩:=zjJ h hf hty
 refine⟨he,⟨⟨_,O1,zoI h1 h.sz hy hf h5 hO2,zcs h2 hf (fun k hk ho=>h4 y hy k hk ho),h3,fun r hr k hk ho=>?_⟩,r1,r8,r2,r3,r4,r5,r6,r7,h.m5,h.m6,h.n1,h.n2,r9⟩,zm8 h hf hty (h1.bl y hy)⟩
 by_cases e:r=y
 ·rw[if_pos e] at ho
  rcases hO2 k ho with h6 | h6
  ·exact h4 y hy k hk h6
  ·have:=zbT h2 hk;omega
 ·rw[if_neg e] at ho;exact h4 r hr k hk ho
theorem zee (h:FwI K C W S D em w) {F:Nat} {OF:Nat→Prop} {f:Int→Bool} (hF:SetN w F OF f) (hM:∀ k,OF k→k<K.M) :
 Calls Tryz.prog 94 #[.pointer (some ⟨S,0,none⟩),.pointer (some ⟨F,0,none⟩)] w fun e w'=>(∃ c,e=.returned (.int .i64 c))∧FwI K C W S (orF D f) em w'∧Fr (Mv K w) w w':=by
 obtain⟨OO,O1,h1,h2,h3,h4⟩:=h.st
 refine(znq S F O1 OF D f w h2 hF (fun k hk ho=>by have:=hM k hk;have:=h3 k ho;omega)).mono ?_
 rintro e w' ⟨he,hf,O2,h5,hO2⟩
 have hty:=h2.ty
 obtain⟨r1,r2,r3,r4,r5,r6,r7,r8,r9⟩:=zjJ h hf hty
 refine⟨he,⟨⟨OO,O2,zd6 h1 hf (fun ho=>(zb0 h1).2 (hty _ ho)) h4,h5,fun k hk=>(hO2 k hk).elim (h3 k) (fun h6=>by have:=h.sz;omega),fun r hr k hk ho=>?_⟩,r1,r8,r2,r3,r4,r5,r6,r7,h.m5,h.m6,h.n1,h.n2,r9⟩,zm8 h hf hty h3⟩
 rcases hO2 k hk with h6 | h6
 ·exact h4 r hr k h6 ho
 ·have:=zbT (h1.set r hr) ho;omega
theorem fw_add (h:FwI K C W S D em w) (x:Int) (hx:0≤x∧x<1048576) (c:Nat) :
 Calls Tryz.prog 79 #[.pointer (some ⟨S,0,none⟩),.slice (some ⟨w.heap.size,0,none⟩) 1 c] (w.alloc (.cells #[.int .i64 x] 3)) fun e w'=>(∃ c,e=.returned (.tuple #[.int .i64 c,.int .i64 0]))∧FwI K C W S (zi8 D x) em w'∧Fr (Mv K w) w w':=by
 have hal:Below w.heap.size w (w.alloc (.cells #[.int .i64 x] 3)):=(Below.refl _ _).alloc (Nat.le_refl _) _
 have hnw:(w.alloc (.cells #[.int .i64 x] 3)).heap[w.heap.size]? = some (.cells #[.int .i64 x] 3 (0,0)):=Go.Deep.blk_alloc_new _ _
 have h':=zbL h hal
 obtain⟨OO,O1,h1,h2,h3,h4⟩:=h'.st
 obtain⟨-,Ow,-,g2,-,-⟩:=h.st
 have hnS:¬ O1 w.heap.size:=fun ho=>zaL hnw (by decide) (by decide) (h2.ty _ ho)
 refine(add_n S O1 D x hx ⟨w.heap.size,0,none⟩ c _ h2 rfl (Array.getElem?_eq_some_iff.1 hnw).1 (by unfold World.cell?;rw[hnw];rfl) hnS).mono ?_
 rintro e w' ⟨he,hf,O2,h5,hO2⟩
 have hty:=h2.ty
 obtain⟨r1,r2,r3,r4,r5,r6,r7,r8,r9⟩:=zjJ h' hf hty
 refine⟨he,⟨⟨OO,O2,zd6 h1 hf (fun ho=>(zb0 h1).2 (hty _ ho)) h4,h5,fun k hk=>(hO2 k hk).elim (h3 k) (fun h6=>by have:=h'.sz;omega),fun r hr k hk ho=>?_⟩,r1,r8,r2,r3,r4,r5,r6,r7,h.m5,h.m6,h.n1,h.n2,r9⟩,?_⟩
 ·rcases hO2 k hk with h6 | h6
  ·exact h4 r hr k h6 ho
  ·have:=zbT (h1.set r hr) ho;omega
 ·have hm:=zm8 h' hf hty h3
  refine⟨Nat.le_trans hal.size hm.1,fun k hk ho=>?_,hm.2.2.1.trans hal.os,hm.2.2.2.1.trans hal.tape,hm.2.2.2.2.trans hal.output⟩
  rw[← hal.block k hk]
  refine hm.2.1 k (Nat.lt_of_lt_of_le hk hal.size) (fun hm2=>ho ⟨hm2.1,hm2.2.1,?_⟩)
  rw[← hal.block k hk];exact hm2.2.2
theorem zeR (h:FwI K C W S D em w) {S':Nat} {O':Nat→Prop} {f:Int→Bool} {em':Bool} {w1:World} (hb:Below w.heap.size w w1) (hS:SetN w1 S' O' f) (hO:∀ k,O' k→w.heap.size≤k) (hf:Fr (fun k=>k=K.hx∨k=K.ex) w1 w') (h5:w'.heap[K.hx]? = some (.cells #[.pointer (some ⟨S',0,none⟩)] 75 (0,0))) (h6:w'.heap[K.ex]? = some (.cells #[.bool em'] 4 (0,0))):FwI K C W S' f em' w'∧Fr (Mv K w) w w':=by
 have h':=zbL h hb
 obtain⟨OO0,O0,g1,-,-,-⟩:=h.st
 have hsz:=h.sz
 have t1:=zbb g1 hb
 have nset:∀ k,(k=K.hx∨k=K.ex)→¬ zey w1 k:=fun k hk hs=>by
  rcases hk with rfl | rfl
  ·exact zaL h'.b5 (by decide) (by decide) hs
  ·exact zaL h'.b6 (by decide) (by decide) hs
 have hk:∀ {k t:Nat} {cs:Array Value},w1.heap[k]? = some (.cells cs t (0,0))→t≠75→t≠4→w'.heap[k]? = some (.cells cs t (0,0)):=fun {k t cs} hk n1 n2=>(hf.2.1 k (Array.getElem?_eq_some_iff.1 hk).1 (fun ho=>by
  rcases ho with e | e
  ·subst e;exact zaF hk h'.b5 n1 rfl
  ·subst e;exact zaF hk h'.b6 n2 rfl)).trans hk
 obtain⟨tcs,htb,-⟩:=t1.row
 refine⟨⟨⟨OO0,O',zd6 t1 hf (fun ho=>?_) (fun r hr k ho hk=>nset k ho ((t1.set r hr).ty k hk)),zcs hS hf (fun k hk ho=>nset k ho (hS.ty k hk)),fun k hk=>by have:=hO k hk;omega,fun r hr k hk ho=>by have:=hO k hk;have:=zbT (g1.set r hr) ho;omega⟩,zfT h'.tab hf (fun k cs t ho hk=>⟨fun e=>?_,fun e=>?_⟩),hk h'.bs (by decide) (by decide),hk h'.b1 (by decide) (by decide),hk h'.b2 (by decide) (by decide),hk h'.b3 (by decide) (by decide),hk h'.b4 (by decide) (by decide),h5,h6,h.m5,h.m6,h.n1,h.n2,Nat.le_trans h'.sz hf.1⟩,?_⟩
 ·rcases ho with e | e
  ·exact h.n2 e
  ·exact zaF htb h'.b6 (by decide) e
 ·subst e
  rcases ho with e | e
  ·subst e;exact zaF hk h'.b5 (by decide) rfl
  ·subst e;exact zaF hk h'.b6 (by decide) rfl
 ·subst e
  rcases ho with e | e
  ·subst e;exact zaF hk h'.b5 (by decide) rfl
  ·subst e;exact zaF hk h'.b6 (by decide) rfl
 ·refine⟨Nat.le_trans hb.size hf.1,fun k hk ho=>(hf.2.1 k (Nat.lt_of_lt_of_le hk hb.size) (fun e=>?_)).trans (hb.block k hk),hf.2.2.1.trans hb.os,hf.2.2.2.1.trans hb.tape,hf.2.2.2.2.trans hb.output⟩
  rcases e with rfl | rfl
  ·exact ho ⟨h.m5,zaF h.b5 h.bs (by decide),_,_,h.b5⟩
  ·exact ho ⟨h.m6,zaF h.b6 h.bs (by decide),_,_,h.b6⟩
theorem fw_way (h:FwI K C W S D em w) {V:Nat→Value} {O':Nat→Prop} {W':Nat→List Nat} (hV:TabV (zaA K.n K.wb V) w K.wb K.n V (fun r=>zai (W r))∧∀ k,zaA K.n K.wb V k→K.M≤k) (hf:Fr (zaA K.n K.wb V) w w') (ht:zb8 O' w' K.wb K.n (fun r=>zai (W' r))) (hO':∀ k,O' k→zaA K.n K.wb V k∨w.heap.size≤k):FwI K C W' S D em w'∧Fr (Mv K w) w w':=by
 obtain⟨OO,O1,h1,h2,h3,h4⟩:=h.st
 obtain⟨V',hV'⟩:=ht
 have hsz:=h.sz
 have hty:∀ k,zaA K.n K.wb V k→∃ cs t,w.heap[k]? = some (.cells cs t (0,0))∧(t=27∨t=3):=fun k hk=>zdj hV.1 hk
 have hno:∀ {k t:Nat} {cs:Array Value},w.heap[k]? = some (.cells cs t (0,0))→t≠27→t≠3→¬ zaA K.n K.wb V k:=fun {k t cs} hk n1 n2 ho=>by
  obtain⟨ds,u,h3,h4⟩:=hty k ho
  rw[hk] at h3
  simp only[Option.some.injEq,Obj.cells.injEq] at h3
  obtain⟨-,rfl,-⟩:=h3
  exact h4.elim n1 n2
 have hbs:¬ zaA K.n K.wb V K.Bs:=fun ho=>by
  rcases ho with e | ⟨r,hr,hk⟩
  ·exact h.n1 e.symm
  ·obtain⟨cs,h5⟩:=zcJ (hV.1.rows r hr).1 hk
   exact zaF h5 h.bs (by decide) rfl
 have hk:∀ {k t:Nat} {cs:Array Value},w.heap[k]? = some (.cells cs t (0,0))→t≠27→t≠3→w'.heap[k]? = some (.cells cs t (0,0)):=fun {k t cs} hk n1 n2=>(hf.2.1 k (Array.getElem?_eq_some_iff.1 hk).1 (hno hk n1 n2)).trans hk
 have hns:∀ k,zaA K.n K.wb V k→¬ zey w k:=fun k hk hs=>by
  obtain⟨cs,t,h5,h6⟩:=hs
  exact hno h5 (by rcases h6 with rfl | rfl <;> decide) (by rcases h6 with rfl | rfl <;> decide) hk
 obtain⟨tcs,htb,-⟩:=h1.row
 refine⟨⟨⟨OO,O1,zd6 h1 hf (hno htb (by decide) (by decide)) (fun r hr k ho hk=>hns k ho ((h1.set r hr).ty k hk)),zcs h2 hf (fun k hk ho=>hns k ho (h2.ty k hk)),h3,h4⟩,⟨V',(zbg hV').1,fun k hk=>?_⟩,(hf.2.1 _ (Array.getElem?_eq_some_iff.1 h.bs).1 hbs).trans h.bs,hk h.b1 (by decide) (by decide),hk h.b2 (by decide) (by decide),hk h.b3 (by decide) (by decide),hk h.b4 (by decide) (by decide),hk h.b5 (by decide) (by decide),hk h.b6 (by decide) (by decide),h.m5,h.m6,h.n1,h.n2,Nat.le_trans h.sz hf.1⟩,?_⟩
 ·rcases hO' k ((zbg hV').2 k hk) with h3 | h3
  ·exact hV.2 k h3
  ·omega
 ·exact zbE hf (fun k _ ho=>⟨hV.2 k ho,fun e=>hbs (e▸ho),by obtain⟨cs,t,h5,-⟩:=hty k ho;exact⟨cs,t,h5⟩⟩)
end
theorem zo8 {K:FwK} {Y Z:World} (h:Fr (Mv K Y) Y Z) {Cb:Nat→Prop} (hC:∀ k,Cb k→k<K.M∨k=K.Bs):zgG Cb Y Z :=
 ⟨h.1,fun p _ hc hv=>(World.cell?_of_block (h.2.1 p.block (World.block_lt_of_cell? Y p hv) (fun hm=>(hC _ hc).elim (fun h1=>by have:=hm.1;omega) hm.2.1))).trans hv⟩
theorem ziD {K:FwK} {base:Nat} {Y Z:World} (h:Fr (Mv K Y) Y Z):KeepsFrom base Y Z :=
 ⟨h.1,fun k o _ ho hc=>(h.2.1 k (Array.getElem?_eq_some_iff.1 ho).1 (fun hm=>by
  obtain⟨-,-,cs,t,h1⟩:=hm
  rw[ho] at h1
  cases h1
  simp[Obj.isCells] at hc)).trans ho⟩
theorem zo9 {K:FwK} {Y Z:World} (h:Fr (Mv K Y) Y Z) (hM:K.M≤Y.heap.size):Below K.M Y Z:=zah h hM (fun _ hk=>hk.1)
theorem zlR {K:FwK} {X Y Z:World} (h:Fr (Mv K X) X Y) (k:Fr (Mv K Y) Y Z):Fr (Mv K X) X Z :=
 ⟨Nat.le_trans h.1 k.1,fun i hi ho=>by
  have e1:=h.2.1 i hi ho
  exact(k.2.1 i (Nat.lt_of_lt_of_le hi h.1) (fun hm=>ho ⟨hm.1,hm.2.1,by rw[← e1];exact hm.2.2⟩)).trans e1,k.2.2.1.trans h.2.2.1,k.2.2.2.1.trans h.2.2.2.1,k.2.2.2.2.trans h.2.2.2.2⟩
end Go.Proofs.YtagohbpbgjelaaaGreatDoor

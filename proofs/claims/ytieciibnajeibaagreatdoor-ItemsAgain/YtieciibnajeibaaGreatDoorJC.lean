import Derived.Test.YtieciibnajeibaaGreatDoorGY
import Derived.Test.YtieciibnajeibaaGreatDoorJB
set_option maxHeartbeats 8000000
set_option maxRecDepth 100000
namespace Go.Proofs.YtieciibnajeibaaGreatDoor
open Go.RowKit Go.Shelf
theorem zr9{B:Nat}{w w':World}{tb n:Nat}{A:Nat->Nat}{OO:Nat->Nat->Prop}{rep:Nat->Nat}{C:Nat->Int->Bool}(h:SetsV B w tb n A OO rep C)(hB:B<=w.heap.size){u:Nat}(hu:u<n)(hf:Fr (OO u) w w'){O2:Nat->Prop}{f:Int->Bool}(h2:SetN w' (A u) O2 f)(hO2:∀ k,O2 k->OO u k\/w.heap.size<=k):SetsV B w' tb n A (λr=>if r=u then O2 else OO r) rep (upC C u f):=by
 obtain⟨cs,h3,h4⟩:=h.row;refine⟨⟨cs,(hf.2.1 tb (zbO h).1 (λho=>(zbO h).2 ((h.set u hu).ty tb ho))).trans h3,h4⟩,h.tbB,h.rp,λr hr=>?_,λr hr k=>?_,λr s hr hs hrs k=>?_⟩
 ·by_cases e:r=u
  ·subst e;rw[if_pos rfl,zbc];exact h2
  ·rw[if_neg e,zcm e];exact zaz (h.set r hr) hf (λk hk ho=>h.ap r u hr hu e k hk ho)
 ·by_cases e:r=u
  ·subst e;rw[if_pos rfl];intro hk;exact(hO2 k hk).elim (h.bl r hr k) (λh=>by omega)
  ·rw[if_neg e];exact h.bl r hr k
 ·by_cases e:r=u
  ·rw[if_pos e,if_neg (λe2=>hrs (e.trans e2.symm))];intro hk hks;rcases hO2 k hk with h5 | h5
   ·exact h.ap u s hu hs (λe2=>hrs (e.trans e2)) k h5 hks
   ·have:=zaO (h.set s hs) hks;omega
  ·rw[if_neg e];by_cases e2:s=u
   ·rw[if_pos e2];intro hk hks;rcases hO2 k hks with h5 | h5
    ·exact h.ap r u hr hu e k hk h5
    ·have:=zaO (h.set r hr) hk;omega
   ·rw[if_neg e2];exact h.ap r s hr hs hrs k
theorem zec{B:Nat}{w w':World}{tb n:Nat}{A:Nat->Nat}{OO:Nat->Nat->Prop}{rep:Nat->Nat}{C:Nat->Int->Bool}(h:SetsV B w tb n A OO rep C){O:Nat->Prop}(hf:Fr O w w')(h1:¬ O tb)(h2:∀ r,r<n->∀ k,O k->¬ OO r k):SetsV B w' tb n A OO rep C:=by
 obtain⟨cs,h3,h4⟩:=h.row;exact⟨⟨cs,(hf.2.1 tb (zbO h).1 h1).trans h3,h4⟩,h.tbB,h.rp,λr hr=>zaz (h.set r hr) hf (λk hk ho=>h2 r hr k ho hk),h.bl,h.ap⟩
structure FwK where
 M:Nat
 n:Nat
 tb:Nat
 wb:Nat
 Bs:Nat
 A:Nat->Nat
 bsv:Value
 bx:Nat
 px:Nat
 sx:Nat
 wx:Nat
 hx:Nat
 ex:Nat
 bv:Value
 pcs:Array Value
 sv:Value
 wv:Value
structure FwI (K:FwK) (C:Nat->Int->Bool) (W:Nat->List Nat) (S:Nat) (D:Int->Bool) (em:Bool) (w:World):Prop where
 st:∃ OO O,SetsV K.M w K.tb K.n K.A OO id C/\SetN w S O D/\(∀ k,O k->K.M<=k)/\∀ r,r<K.n->∀ k,O k->¬ OO r k
 tab:zim K.M w K.wb K.n W
 bs:w.heap[K.Bs]? = some (.cells #[K.bsv] 50 (0,0))
 b1:w.heap[K.bx]? = some (.cells #[K.bv] 162 (0,0))
 b2:w.heap[K.px]? = some (.cells K.pcs 116 (0,0))
 b3:w.heap[K.sx]? = some (.cells #[K.sv] 107 (0,0))
 b4:w.heap[K.wx]? = some (.cells #[K.wv] 221 (0,0))
 b5:w.heap[K.hx]? = some (.cells #[.pointer (some ⟨S,0,none⟩)] 110 (0,0))
 b6:w.heap[K.ex]? = some (.cells #[.bool em] 4 (0,0))
 m5:K.M<=K.hx
 m6:K.M<=K.ex
 n1:K.wb≠K.Bs
 n2:K.tb≠K.hx
 sz:K.M<=w.heap.size
def Mv(K:FwK)(w:World)(k:Nat):Prop:=K.M<=k/\k≠K.Bs/\∃ cs t,w.heap[k]? = some (.cells cs t (0,0))
section
variable {K:FwK} {C:Nat->Int->Bool} {W:Nat->List Nat} {S:Nat} {D:Int->Bool} {em:Bool} {w w':World}
theorem zlG(h:FwI K C W S D em w){O:Nat->Prop}(hf:Fr O w w')(hn:∀ k cs t,O k->w.heap[k]?≠some (.cells cs t (0,0))):FwI K C W S D em w':=by
 obtain⟨OO,O1,h1,h2,h3,h4⟩:=h.st;have hk:∀ {k t:Nat} {cs:Array Value},w.heap[k]? = some (.cells cs t (0,0))->w'.heap[k]? = some (.cells cs t (0,0)):=fun {k t cs} hk=>(hf.2.1 k (zsO.1 hk).1 (λho=>hn _ _ _ ho hk)).trans hk;refine⟨⟨OO,O1,zk6 h1 hf (λk _ ho=>⟨λe=>?_,λhs=>?_⟩),zaz h2 hf (λk hk ho=>?_),h3,h4⟩,zgG h.tab hf (λk cs t ho hk=>absurd hk (hn _ _ _ ho)),hk h.bs,hk h.b1,hk h.b2,hk h.b3,hk h.b4,hk h.b5,hk h.b6,h.m5,h.m6,h.n1,h.n2,zsy h.sz hf.1⟩
 ·subst e;obtain⟨cs,h5,-⟩:=h1.row;exact hn _ _ _ ho h5
 ·obtain⟨cs,t,h5,-⟩:=hs.2;exact hn _ _ _ ho h5
 ·obtain⟨cs,t,h5,-⟩:=h2.ty k hk;exact hn _ _ _ ho h5
theorem zb7(h:FwI K C W S D em w)(hb:Below w.heap.size w w'):FwI K C W S D em w':=zlG (O:=λ_=>False) h (zae hb) (λ_ _ _ h=>h.elim)
theorem zlF(h:FwI K C W S D em w){O:Nat->Prop}(hf:Fr O w w')(hO:∀ k,O k->zcr w k):zim K.M w' K.wb K.n W/\w'.heap[K.bx]? = some (.cells #[K.bv] 162 (0,0))/\w'.heap[K.px]? = some (.cells K.pcs 116 (0,0))/\w'.heap[K.sx]? = some (.cells #[K.sv] 107 (0,0))/\w'.heap[K.wx]? = some (.cells #[K.wv] 221 (0,0))/\w'.heap[K.hx]? = some (.cells #[.pointer (some ⟨S,0,none⟩)] 110 (0,0))/\w'.heap[K.ex]? = some (.cells #[.bool em] 4 (0,0))/\w'.heap[K.Bs]? = some (.cells #[K.bsv] 50 (0,0))/\K.M<=w'.heap.size:=by
 have hk:∀ {k t:Nat} {cs:Array Value},w.heap[k]? = some (.cells cs t (0,0))->t≠233->t≠244->w'.heap[k]? = some (.cells cs t (0,0)):=fun {k t cs} hk n1 n2=>(hf.2.1 k (zsO.1 hk).1 (λho=>zaq hk n1 n2 (hO _ ho))).trans hk;refine⟨zgG h.tab hf (λk cs t ho hk=>⟨λe=>?_,λe=>?_⟩),hk h.b1 (by decide) (by decide),hk h.b2 (by decide) (by decide),hk h.b3 (by decide) (by decide),hk h.b4 (by decide) (by decide),hk h.b5 (by decide) (by decide),hk h.b6 (by decide) (by decide),hk h.bs (by decide) (by decide),zsy h.sz hf.1⟩
 ·subst e;exact zaq hk (by decide) (by decide) (hO _ ho)
 ·subst e;exact zaq hk (by decide) (by decide) (hO _ ho)
theorem zpS(h:FwI K C W S D em w){O:Nat->Prop}(hf:Fr O w w')(hO:∀ k,O k->zcr w k)(hM:∀ k,O k->K.M<=k):Fr (Mv K w) w w' :=
 zaj hf (λk _ ho=>⟨hM k ho,λe=>by subst e;exact zaq h.bs (by decide) (by decide) (hO _ ho),by obtain⟨cs,t,h5,-⟩:=hO k ho;exact⟨cs,t,h5⟩⟩)
theorem zwq(h:FwI K C W S D em w){y:Nat}(hy:y<K.n) :
 Calls Tryz.prog 117 #[.pointer (some ⟨K.A y,0,none⟩),.pointer (some ⟨S,0,none⟩)] w λe w'=>(∃ c,e=.returned (.int .i64 c))/\FwI K (upC C y (orF (C y) D)) W S D em w'/\Fr (Mv K w) w w':=by
 obtain⟨OO,O1,h1,h2,h3,h4⟩:=h.st;refine(zmK (K.A y) S (OO y) O1 (C y) D w (h1.set y hy) h2 (λk hk ho=>h4 y hy k hk ho)).mono ?_;rintro e w' ⟨he,hf,O2,h5,hO2⟩;have hty:=(h1.set y hy).ty;obtain⟨r1,r2,r3,r4,r5,r6,r7,r8,r9⟩:=zlF h hf hty;refine⟨he,⟨⟨_,O1,zr9 h1 h.sz hy hf h5 hO2,zaz h2 hf (λk hk ho=>h4 y hy k hk ho),h3,λr hr k hk ho=>?_⟩,r1,r8,r2,r3,r4,r5,r6,r7,h.m5,h.m6,h.n1,h.n2,r9⟩,zpS h hf hty (h1.bl y hy)⟩;by_cases e:r=y
 ·rw[if_pos e] at ho;rcases hO2 k ho with h6 | h6
  ·exact h4 y hy k hk h6
  ·have:=zaO h2 hk;omega
 ·rw[if_neg e] at ho;exact h4 r hr k hk ho
theorem zgu(h:FwI K C W S D em w){F:Nat}{OF:Nat->Prop}{f:Int->Bool}(hF:SetN w F OF f)(hM:∀ k,OF k->k<K.M) :
 Calls Tryz.prog 117 #[.pointer (some ⟨S,0,none⟩),.pointer (some ⟨F,0,none⟩)] w λe w'=>(∃ c,e=.returned (.int .i64 c))/\FwI K C W S (orF D f) em w'/\Fr (Mv K w) w w':=by
 obtain⟨OO,O1,h1,h2,h3,h4⟩:=h.st;refine(zmK S F O1 OF D f w h2 hF (λk hk ho=>by have:=hM k hk;have:=h3 k ho;omega)).mono ?_;rintro e w' ⟨he,hf,O2,h5,hO2⟩;have hty:=h2.ty;obtain⟨r1,r2,r3,r4,r5,r6,r7,r8,r9⟩:=zlF h hf hty;refine⟨he,⟨⟨OO,O2,zec h1 hf (λho=>(zbO h1).2 (hty _ ho)) h4,h5,λk hk=>(hO2 k hk).elim (h3 k) (λh6=>by have:=h.sz;omega),λr hr k hk ho=>?_⟩,r1,r8,r2,r3,r4,r5,r6,r7,h.m5,h.m6,h.n1,h.n2,r9⟩,zpS h hf hty h3⟩;rcases hO2 k hk with h6 | h6
 ·exact h4 r hr k h6 ho
 ·have:=zaO (h1.set r hr) ho;omega
theorem fw_add(h:FwI K C W S D em w)(x:Int)(hx:0<=x/\x<1048576)(c:Nat) :
 Calls Tryz.prog 150 #[.pointer (some ⟨S,0,none⟩),.slice (some ⟨w.heap.size,0,none⟩) 1 c] (w.alloc (.cells #[.int .i64 x] 3)) λe w'=>(∃ c,e=.returned (.tuple #[.int .i64 c,.int .i64 0]))/\FwI K C W S (zkS D x) em w'/\Fr (Mv K w) w w':=by
 have hal:Below w.heap.size w (w.alloc (.cells #[.int .i64 x] 3)):=(zsY _ _).alloc (zsG _) _;have hnw:(w.alloc (.cells #[.int .i64 x] 3)).heap[w.heap.size]? = some (.cells #[.int .i64 x] 3 (0,0)):=zsH _ _;have h':=zb7 h hal;obtain⟨OO,O1,h1,h2,h3,h4⟩:=h'.st;obtain⟨-,Ow,-,g2,-,-⟩:=h.st;have hnS:¬ O1 w.heap.size:=λho=>zaq hnw (by decide) (by decide) (h2.ty _ ho);refine(add_n S O1 D x hx ⟨w.heap.size,0,none⟩ c _ h2 rfl (zsO.1 hnw).1 (by unfold World.cell?;rw[hnw];rfl) hnS).mono ?_;rintro e w' ⟨he,hf,O2,h5,hO2⟩;have hty:=h2.ty;obtain⟨r1,r2,r3,r4,r5,r6,r7,r8,r9⟩:=zlF h' hf hty;refine⟨he,⟨⟨OO,O2,zec h1 hf (λho=>(zbO h1).2 (hty _ ho)) h4,h5,λk hk=>(hO2 k hk).elim (h3 k) (λh6=>by have:=h'.sz;omega),λr hr k hk ho=>?_⟩,r1,r8,r2,r3,r4,r5,r6,r7,h.m5,h.m6,h.n1,h.n2,r9⟩,?_⟩
 ·rcases hO2 k hk with h6 | h6
  ·exact h4 r hr k h6 ho
  ·have:=zaO (h1.set r hr) ho;omega
 ·have hm:=zpS h' hf hty h3;refine⟨zsy hal.size hm.1,λk hk ho=>?_,hm.2.2.1.trans hal.os,hm.2.2.2.1.trans hal.tape,hm.2.2.2.2.trans hal.output⟩;rw[<- hal.block k hk];refine hm.2.1 k (zsJ hk hal.size) (λhm2=>ho ⟨hm2.1,hm2.2.1,?_⟩);rw[<- hal.block k hk];exact hm2.2.2
theorem zha(h:FwI K C W S D em w){S':Nat}{O':Nat->Prop}{f:Int->Bool}{em':Bool}{w1:World}(hb:Below w.heap.size w w1)(hS:SetN w1 S' O' f)(hO:∀ k,O' k->w.heap.size<=k)(hf:Fr (λk=>k=K.hx\/k=K.ex) w1 w')(h5:w'.heap[K.hx]? = some (.cells #[.pointer (some ⟨S',0,none⟩)] 110 (0,0)))(h6:w'.heap[K.ex]? = some (.cells #[.bool em'] 4 (0,0))):FwI K C W S' f em' w'/\Fr (Mv K w) w w':=by
 have h':=zb7 h hb;obtain⟨OO0,O0,g1,-,-,-⟩:=h.st;have hsz:=h.sz;have t1:=zaZ g1 hb;have nset:∀ k,(k=K.hx\/k=K.ex)->¬ zcr w1 k:=λk hk hs=>by
  rcases hk with rfl | rfl
  ·exact zaq h'.b5 (by decide) (by decide) hs
  ·exact zaq h'.b6 (by decide) (by decide) hs
 have hk:∀ {k t:Nat} {cs:Array Value},w1.heap[k]? = some (.cells cs t (0,0))->t≠110->t≠4->w'.heap[k]? = some (.cells cs t (0,0)):=fun {k t cs} hk n1 n2=>(hf.2.1 k (zsO.1 hk).1 (λho=>by
  rcases ho with e | e
  ·subst e;exact zav hk h'.b5 n1 rfl
  ·subst e;exact zav hk h'.b6 n2 rfl)).trans hk
 obtain⟨tcs,htb,-⟩:=t1.row;refine⟨⟨⟨OO0,O',zec t1 hf (λho=>?_) (λr hr k ho hk=>nset k ho ((t1.set r hr).ty k hk)),zaz hS hf (λk hk ho=>nset k ho (hS.ty k hk)),λk hk=>by have:=hO k hk;omega,λr hr k hk ho=>by have:=hO k hk;have:=zaO (g1.set r hr) ho;omega⟩,zgG h'.tab hf (λk cs t ho hk=>⟨λe=>?_,λe=>?_⟩),hk h'.bs (by decide) (by decide),hk h'.b1 (by decide) (by decide),hk h'.b2 (by decide) (by decide),hk h'.b3 (by decide) (by decide),hk h'.b4 (by decide) (by decide),h5,h6,h.m5,h.m6,h.n1,h.n2,zsy h'.sz hf.1⟩,?_⟩
 ·rcases ho with e | e
  ·exact h.n2 e
  ·exact zav htb h'.b6 (by decide) e
 ·subst e;rcases ho with e | e
  ·subst e;exact zav hk h'.b5 (by decide) rfl
  ·subst e;exact zav hk h'.b6 (by decide) rfl
 ·subst e;rcases ho with e | e
  ·subst e;exact zav hk h'.b5 (by decide) rfl
  ·subst e;exact zav hk h'.b6 (by decide) rfl
 ·refine⟨zsy hb.size hf.1,λk hk ho=>(hf.2.1 k (zsJ hk hb.size) (λe=>?_)).trans (hb.block k hk),hf.2.2.1.trans hb.os,hf.2.2.2.1.trans hb.tape,hf.2.2.2.2.trans hb.output⟩;rcases e with rfl | rfl
  ·exact ho ⟨h.m5,zav h.b5 h.bs (by decide),_,_,h.b5⟩
  ·exact ho ⟨h.m6,zav h.b6 h.bs (by decide),_,_,h.b6⟩
theorem fw_way(h:FwI K C W S D em w){V:Nat->Value}{O':Nat->Prop}{W':Nat->List Nat}(hV:TabV (zaG K.n K.wb V) w K.wb K.n V (λr=>zag (W r))/\∀ k,zaG K.n K.wb V k->K.M<=k)(hf:Fr (zaG K.n K.wb V) w w')(ht:zbB O' w' K.wb K.n (λr=>zag (W' r)))(hO':∀ k,O' k->zaG K.n K.wb V k\/w.heap.size<=k):FwI K C W' S D em w'/\Fr (Mv K w) w w':=by
 obtain⟨OO,O1,h1,h2,h3,h4⟩:=h.st;obtain⟨V',hV'⟩:=ht;have hsz:=h.sz;have hty:∀ k,zaG K.n K.wb V k->∃ cs t,w.heap[k]? = some (.cells cs t (0,0))/\(t=50\/t=3):=λk hk=>zdi hV.1 hk;have hno:∀ {k t:Nat} {cs:Array Value},w.heap[k]? = some (.cells cs t (0,0))->t≠50->t≠3->¬ zaG K.n K.wb V k:=fun {k t cs} hk n1 n2 ho=>by
  obtain⟨ds,u,h3,h4⟩:=hty k ho;rw[hk] at h3;simp only[Option.some.injEq,Obj.cells.injEq] at h3;obtain⟨-,rfl,-⟩:=h3;exact h4.elim n1 n2
 have hbs:¬ zaG K.n K.wb V K.Bs:=λho=>by
  rcases ho with e | ⟨r,hr,hk⟩
  ·exact h.n1 e.symm
  ·obtain⟨cs,h5⟩:=zcC (hV.1.rows r hr).1 hk;exact zav h5 h.bs (by decide) rfl
 have hk:∀ {k t:Nat} {cs:Array Value},w.heap[k]? = some (.cells cs t (0,0))->t≠50->t≠3->w'.heap[k]? = some (.cells cs t (0,0)):=fun {k t cs} hk n1 n2=>(hf.2.1 k (zsO.1 hk).1 (hno hk n1 n2)).trans hk;have hns:∀ k,zaG K.n K.wb V k->¬ zcr w k:=λk hk hs=>by
  obtain⟨cs,t,h5,h6⟩:=hs;exact hno h5 (by rcases h6 with rfl | rfl <;> decide) (by rcases h6 with rfl | rfl <;> decide) hk
 obtain⟨tcs,htb,-⟩:=h1.row;refine⟨⟨⟨OO,O1,zec h1 hf (hno htb (by decide) (by decide)) (λr hr k ho hk=>hns k ho ((h1.set r hr).ty k hk)),zaz h2 hf (λk hk ho=>hns k ho (h2.ty k hk)),h3,h4⟩,⟨V',(za3 hV').1,λk hk=>?_⟩,(hf.2.1 _ (zsO.1 h.bs).1 hbs).trans h.bs,hk h.b1 (by decide) (by decide),hk h.b2 (by decide) (by decide),hk h.b3 (by decide) (by decide),hk h.b4 (by decide) (by decide),hk h.b5 (by decide) (by decide),hk h.b6 (by decide) (by decide),h.m5,h.m6,h.n1,h.n2,zsy h.sz hf.1⟩,?_⟩
 ·rcases hO' k ((za3 hV').2 k hk) with h3 | h3
  ·exact hV.2 k h3
  ·omega
 ·exact zaj hf (λk _ ho=>⟨hV.2 k ho,λe=>hbs (e▸ho),by obtain⟨cs,t,h5,-⟩:=hty k ho;exact⟨cs,t,h5⟩⟩)
end
theorem zs9{K:FwK}{Y Z:World}(h:Fr (Mv K Y) Y Z){Cb:Nat->Prop}(hC:∀ k,Cb k->k<K.M\/k=K.Bs):zdE Cb Y Z :=
 ⟨h.1,λp _ hc hv=>(zsL (h.2.1 p.block (zsQ Y p hv) (λhm=>(hC _ hc).elim (λh1=>by have:=hm.1;omega) hm.2.1))).trans hv⟩
theorem zj6{K:FwK}{base:Nat}{Y Z:World}(h:Fr (Mv K Y) Y Z):KeepsFrom base Y Z :=
 ⟨h.1,λk o _ ho hc=>(h.2.1 k (zsO.1 ho).1 (λhm=>by
  obtain⟨-,-,cs,t,h1⟩:=hm;rw[ho] at h1
  cases h1
  simp[Obj.isCells] at hc)).trans ho⟩
theorem zta{K:FwK}{Y Z:World}(h:Fr (Mv K Y) Y Z)(hM:K.M<=Y.heap.size):Below K.M Y Z:=zau h hM (λ_ hk=>hk.1)
theorem zuA{K:FwK}{X Y Z:World}(h:Fr (Mv K X) X Y)(k:Fr (Mv K Y) Y Z):Fr (Mv K X) X Z :=
 ⟨zsy h.1 k.1,λi hi ho=>by
  have e1:=h.2.1 i hi ho
  exact(k.2.1 i (zsJ hi h.1) (λhm=>ho ⟨hm.1,hm.2.1,by rw[<- e1];exact hm.2.2⟩)).trans e1,k.2.2.1.trans h.2.2.1,k.2.2.2.1.trans h.2.2.2.1,k.2.2.2.2.trans h.2.2.2.2⟩
attribute [local go_sem] Oper.semAt_some
theorem ziq{V:Int × Int->Prop}{l:List (Int × Int)}(h:∀ p ∈ l,V p):(l.attachWith V h).map Subtype.val=l:=by
 rw[List.attachWith,List.map_pmap];simp
theorem zkG{l:List Int}{p:Int × Int}(h:p ∈ zbn l):p.2 ∈ l:=by
 have:p.2 ∈ (zbn l).map Prod.snd:=List.mem_map_of_mem h;rw[zro] at this;simpa using this
theorem zkE{α:Type}(val:α->Int × Int)(bl:List α)(F:Fence)(n:Nat)(h226:F.fn 226)(hro:F.round=none)(hn:1<=n)(Bs:Nat)(a:Option Addr)(cap:Nat)(C:Nat->Prop)(l:List Int)(hbl:bl.map val=zbn l)(hlen:l.length<=1500000000000)(w:World)(hBl:Bs<w.heap.size)(hCB:C Bs)(hBs:w.cell? ⟨Bs,0,none⟩=some (.slice a l.length cap))
 (hr:l=[]\/∃ b off,a=some ⟨b,off,none⟩/\b<w.heap.size/\C b/\∀ j,j<l.length->w.cell? ⟨b,off+j,none⟩=some (.int .i64 (l.getD j 0))) :
 SeqStopsK F n Tryz.prog 226 #[.pointer (some ⟨Bs,0,none⟩)] (λx:α=>#[Value.int .i64 (val x).1,Value.int .i64 (val x).2]) (zdE C) (λys=>ys=bl) (λpre=>pre <+: bl) l.length w:=λl0 J Jx W hW _ _ hY h0=>by
 refine zxf val bl F n h226 hro hn l0 Bs a cap C l hbl hlen J Jx hY W hCB ((hW.cell (p:=⟨Bs,0,none⟩) hBl).trans hBs) ?_ h0;rcases hr with h | ⟨b,off,rfl,hlt,hC,hcs⟩
 ·exact .inl h
 ·exact .inr ⟨b,off,rfl,hC,λj hj=>(hW.cell (p:=⟨b,off+j,none⟩) hlt).trans (hcs j hj)⟩
theorem zqu{K:FwK}{C:Nat->Int->Bool}{W:Nat->List Nat}{S:Nat}{D:Int->Bool}{em:Bool}{V:World}(h:FwI K C W S D em V)(v1 v2:Value):Fr (λk=>k=K.hx\/k=K.ex) V ((V.setCell ⟨K.hx,0,none⟩ v1).setCell ⟨K.ex,0,none⟩ v2)/\((V.setCell ⟨K.hx,0,none⟩ v1).setCell ⟨K.ex,0,none⟩ v2).heap[K.hx]? = some (.cells #[v1] 110 (0,0))/\((V.setCell ⟨K.hx,0,none⟩ v1).setCell ⟨K.ex,0,none⟩ v2).heap[K.ex]? = some (.cells #[v2] 4 (0,0)):=by
 have hne:K.hx≠K.ex:=zav h.b5 h.b6 (by decide);have h1:(V.setCell ⟨K.hx,0,none⟩ v1).heap[K.hx]? = some (.cells #[v1] 110 (0,0)):=by
  have:=Wk.block_set (i:=0) h.b5 v1;simpa using this
 have h2:(V.setCell ⟨K.hx,0,none⟩ v1).heap[K.ex]? = some (.cells #[.bool em] 4 (0,0)):=(zal V (λe=>hne e.symm)).trans h.b6;refine⟨zaD (zaD (zax _ _) (.inl rfl) _) (.inr rfl) _,(zal _ hne).trans h1,?_⟩;have:=Wk.block_set (i:=0) h2 v2;simpa using this
theorem zkF{α:Type}(val:α->Int × Int){l:List Int}{pre:List α}{x:α}(h:(pre ++ [x]).map val <+: zbn l):pre.map val <+: zbn l/\pre.length<l.length/\(val x).2=l.getD (l.length - 1 - pre.length) 0:=by
 rw[List.map_append] at h;have h1:pre.map val <+: zbn l:=(List.prefix_append _ _).trans h;have hlen:=h.length_le;rw[zci] at hlen;simp at hlen;refine⟨h1,by omega,?_⟩;have h2:=zeV l pre.length (by omega);unfold zij at h2;have h3:(pre.map val ++ [val x])=(zbn l).take (pre.length+1):=by
  have h4:=List.prefix_iff_eq_take.1 h;simp at h4;exact h4
 have h5:pre.map val=(zbn l).take pre.length:=by
  have h4:=List.prefix_iff_eq_take.1 h1;simp at h4;exact h4
 rw[h2,<- h5] at h3;have h6:=List.append_cancel_left h3;simp at h6;rw[h6,zsE]
theorem ztE(w:World)(v1 v2 v3 v4:Array Value)(t1 t2 t3 t4:Nat){WA:World}(h:WA=(((w.alloc (.cells v1 t1)).alloc (.cells v2 t2)).alloc (.cells v3 t3)).alloc (.cells v4 t4)):Below w.heap.size w WA/\WA.heap.size=w.heap.size+1+1+1+1/\WA.heap[w.heap.size]? = some (.cells v1 t1 (0,0))/\WA.heap[w.heap.size+1]? = some (.cells v2 t2 (0,0))/\WA.heap[w.heap.size+1+1]? = some (.cells v3 t3 (0,0))/\WA.heap[w.heap.size+1+1+1]? = some (.cells v4 t4 (0,0)):=by
 have n1:=zsH w (.cells v1 t1 (0,0));have n2:=zsH (w.alloc (.cells v1 t1)) (.cells v2 t2 (0,0));have n3:=zsH ((w.alloc (.cells v1 t1)).alloc (.cells v2 t2)) (.cells v3 t3 (0,0));have n4:=zsH (((w.alloc (.cells v1 t1)).alloc (.cells v2 t2)).alloc (.cells v3 t3)) (.cells v4 t4 (0,0));simp only[World.size_alloc] at n2 n3 n4;subst h;refine⟨((((zsY _ _).alloc (zsG _) _).alloc (by simp) _).alloc (by simp;omega) _).alloc (by simp;omega) _,by simp,?_,?_,?_,n4⟩
 ·rw[zsZ _ _ _ (by simp;omega),zsZ _ _ _ (by simp;omega),zsZ _ _ _ (by simp)];exact n1
 ·rw[zsZ _ _ _ (by simp),zsZ _ _ _ (by simp)];exact n2
 ·rw[zsZ _ _ _ (by simp)];exact n3
def FwJ(G:Gm)(K:FwK)(w5:World)(k nW:Nat)(bl:List (Int × Int))(pre:List (Int × Int))(V:World):Prop:=∃ C W S D em,FwI K C W S D em V/\Below K.M w5 V/\(∀ r,(W r).length<=nW+pre.length)/\(pre <+: bl->FlI G (Dn k ((rhs G k).length - pre.length)) (nW+pre.length) C W/\BeI G (rhs G k) ((rhs G k).length - pre.length) D em)
theorem zwr{G:Gm}{K:FwK}{w5:World}{k nW:Nat}{bl:List (Int × Int)}{base:Nat}(hbase:K.M<=base){α:Type}(val:α->Int × Int):OwnFrom base (λ(pre:List α) V=>FwJ G K w5 k nW bl (pre.map val) V):=λs X Y row ⟨C,W,S,D,em,h1,h0,h2,h3⟩ hg hr =>
 ⟨C,W,S,D,em,zlG (O:=λk=>row=some k) h1 ⟨hg.size,λk hk ho=>hg.block k hk (λe=>ho e.symm),hg.os,hg.tape,hg.output⟩ (λk cs t ho hk=>by
  obtain⟨-,o,h4,h5⟩:=hr k ho;rw[hk] at h4
  cases h4
  simp[Obj.isCells] at h5),h0.grown hg h1.sz (λj hj=>zsy hbase (hr j hj).1),h2,h3⟩
def zrF(G:Gm)(M:Nat)(w5:World)(k nW tb wb:Nat)(A:Nat->Nat)(w':World):Prop:=∃ C' W',FlI G (λq _=>q<k+1) (nW+64) C' W'/\(∃ OO,SetsV M w' tb G.rules.length A OO id C')/\zim M w' wb G.rules.length W'/\Below M w5 w'
theorem zge(G:Gm)(hG:GOk G)(ka:Option Addr)(kc gb bb nb sb sc N:Nat)(A2:Nat->Nat)(w5:World)(hc0:w5.cell? ⟨gb,0,none⟩=some (.slice ka G.kinds.length kc))(hbg:BgAt N w5 G bb nb sb sc gb A2)
 (tb tc wb wcp nW:Nat) (A:Nat->Nat) (C:Nat->Int->Bool) (W:Nat->List Nat) (k:Nat) (hk:k<G.prods.length) (ha:atF G (lhs G k)=true) (hF:FlI G (λq _=>q<k) nW C W) (hnW:nW<=262144)
 (rr:Option Addr) (rrc:Nat) (plv x3 x4:Int) (x5:ByteArray) (x6:Option Addr) (n6 c6:Nat) (hrr:NRow w5.heap.size w5 rr (rhs G k)) (w:World) (hw:Below w5.heap.size w5 w) (hst:∃ OO,SetsV w5.heap.size w tb G.rules.length A OO id C) (htab:zim w5.heap.size w wb G.rules.length W) :
 Calls Tryz.prog 161 #[.pointer (some ⟨bb,0,none⟩),.agg #[.int .i64 (lhs G k:Nat),.slice rr (rhs G k).length rrc,.int .i64 plv,.int .i64 x3,.int .i64 x4,.string x5,.slice x6 n6 c6],.slice (some ⟨tb,0,none⟩) G.rules.length tc,.slice (some ⟨wb,0,none⟩) G.rules.length wcp] w λe w'=>(∃ v,e=.returned v)/\zrF G w5.heap.size w5 k nW tb wb A w':=by
 have hpl:=hG.pl _ (zan hk);have hpr:(rhs G k).length<=64:=hG.pr _ (zan hk);have hpy:zjE (G.nk+G.nr) (rhs G k):=hG.py _ (zan hk);have hll:lhs G k<G.rules.length:=by have h1:=hpl.2;unfold Gm.nr at h1;show (G.prods.getD k pd0).left.toNat<_;omega
 have hr2:=hG.r2;have hr1:=hG.r1;have hk3:=hG.k3;unfold Gm.nr at hr2 hr1;unfold Gm.nk at hk3;have hnot:=zbl;have hszw:=hw.size;obtain⟨OO0,hst0⟩:=hst;have htbl:=(zbO hst0).1;have htbB:=hst0.tbB;obtain⟨V0,hV0,hV0M⟩:=htab;have hwbl:=hV0.lt _ hV0.own;have hwbM:=hV0M _ hV0.own;have htab:zim w5.heap.size w wb G.rules.length W:=⟨V0,hV0,hV0M⟩
 -- the steps, in plain words
 have Hkd:=zaa (λ(j n:Nat) (C:Nat->Int->Bool) (W:Nat->List Nat) (h:FlI G (Dn k (j+1)) n C W) (hx:(rhs G k).getD j 0<(G.nk:Int))=>zhd (zwy h hx) (Nat.le_succ n) (λ_ _ _ _=>Iff.rfl));have Hrl:=zaa (λ(j n y:Nat) (C:Nat->Int->Bool) (W:Nat->List Nat) (D:Int->Bool) (em:Bool) (h:FlI G (Dn k (j+1)) n C W) (hj:j<(rhs G k).length) (hx:(G.nk:Int)<=(rhs G k).getD j 0) (hD:BeI G (rhs G k) (j+1) D em) (hy:((rhs G k).getD j 0 - G.nk).toNat=y)=>zwv h hk ha hj hx hD hy);have Hop:=zaa (zwx hF);have Hsh:=zaa (λ(n:Nat) (C:Nat->Int->Bool) (W:Nat->List Nat) (h:FlI G (Dn k 0) n C W) (hn:n<=nW+64)=>zwu h hn);have Hlen:=zaa hF.l;have HJd:Hid (∀ (K:FwK) (bl pre:List (Int × Int)) (V:World),FwJ G K w5 k nW bl pre V↔∃ C W S D em,FwI K C W S D em V/\Below K.M w5 V/\(∀ r,(W r).length<=nW+pre.length)/\(pre <+: bl->FlI G (Dn k ((rhs G k).length - pre.length)) (nW+pre.length) C W/\BeI G (rhs G k) ((rhs G k).length - pre.length) D em)):=zaa (λ_ _ _ _=>Iff.rfl);clear hF ha hpl;generalize lhs G k=l at *;generalize rhs G k=prt at *;obtain⟨WA,hWA⟩:∃ WA,WA=(((w.alloc (.cells #[.pointer (some ⟨bb,0,none⟩)] 162)).alloc (.cells #[.int .i64 (l:Nat),.slice rr prt.length rrc,.int .i64 plv,.int .i64 x3,.int .i64 x4,.string x5,.slice x6 n6 c6] 116)).alloc (.cells #[.slice (some ⟨tb,0,none⟩) G.rules.length tc] 107)).alloc (.cells #[.slice (some ⟨wb,0,none⟩) G.rules.length wcp] 221):=⟨_,rfl⟩;obtain⟨hbA,hsA,a1,a2,a3,a4⟩:=ztE w _ _ _ _ 162 116 107 221 hWA;refine(callsIn_wide (n:=20)).1 ?_;refine callsIn_of_wp_marks Tryz.func161 rfl trivial ?_ rfl;simp only[Tryz.ntmps161,List.size_toArray,List.length_cons,List.length_nil,Nat.reduceAdd,Nat.reduceSub,Array.replicate_succ,Array.replicate_zero,List.push_toArray,List.append_toArray,List.nil_append,List.cons_append];have Hc0:=zaa hc0;have Hbg:=zaa hbg;have Hrr:=zaa hrr;have Hw:=zaa hw;have Hst:=zaa hst0;have Htab:=zaa htab;have HA:=zaa (And.intro hbA (And.intro hsA (And.intro a1 (And.intro a2 (And.intro a3 a4)))));clear hc0 hbg hrr hw hst0 htab hV0 hV0M hbA hsA a1 a2 a3 a4
 gi_wp2_with fail
 rw[<- hWA];clear hWA;refine⟨trivial,(callsIn_wide.2 (zda WA)).mono ?_⟩;rintro e1 w1 ⟨rfl,hb1,hlt1,hs1⟩;have hbA:=(uh HA).1;have hsA:=(uh HA).2.1;have a1:=(uh HA).2.2.1;have a2:=(uh HA).2.2.2.1;have a3:=(uh HA).2.2.2.2.1;have a4:=(uh HA).2.2.2.2.2;obtain⟨W2,hW2⟩:∃ W2,W2=(w1.alloc (.cells #[.pointer (some ⟨WA.heap.size,0,none⟩)] 110)).alloc (.cells #[.bool true] 4):=⟨_,rfl⟩;have hb2:Below w1.heap.size w1 W2:=by rw[hW2];exact((zsY _ _).alloc (zsG _) _).alloc (by simp) _
 have hb1':Below WA.heap.size WA W2:=hb1.trans (zab hb2 hb1.size);have hk1:∀ {b:Nat} {o:Obj},WA.heap[b]? = some o->W2.heap[b]? = some o:=fun {b o} h=>(hb1'.block _ (zsO.1 h).1).trans h;have a5:W2.heap[w1.heap.size]? = some (.cells #[.pointer (some ⟨WA.heap.size,0,none⟩)] 110 (0,0)):=by rw[hW2,zsZ _ _ _ (by simp)];exact zsH _ _
 have a6:W2.heap[w1.heap.size+1]? = some (.cells #[.bool true] 4 (0,0)):=by
  have:=zsH (w1.alloc (.cells #[.pointer (some ⟨WA.heap.size,0,none⟩)] 110)) (.cells #[.bool true] 4 (0,0));rw[World.size_alloc] at this;rw[hW2];exact this
 have hs2:W2.heap.size=w1.heap.size+1+1:=by rw[hW2];simp
 have c1:W2.cell? ⟨w.heap.size+1,1,none⟩=some (.slice rr prt.length rrc):=by unfold World.cell?;rw[hk1 a2];rfl
 rw[hW2] at c1;have HB:=zaa (And.intro hb1 (And.intro hb1' (And.intro a5 (And.intro a6 (And.intro hs1 hb2)))));have Ha1:=zaa (hk1 a1);have Ha2:=zaa (hk1 a2);have Ha3:=zaa (hk1 a3);have Ha4:=zaa (hk1 a4);have Hs2:=zaa hs2;have HsA:=zaa hsA;clear hb1 hs1 hb1' a5 a6 hb2 hk1 hbA hsA a1 a2 a3 a4 hs2
 gi_wp2_with fail
 rw[<- hW2];clear hW2;refine⟨trivial,(callsIn_wide.2 (zf8 rr prt.length rrc W2)).mono ?_⟩;rintro e2 W3 ⟨rfl,hW3⟩
 gi_wp2_with fail
 obtain⟨hb1,hb1',a5,a6,hs1,hb2⟩:=uh HB;have hs2:=uh Hs2;have hsA:=uh HsA;have hb3:Below W2.heap.size W2 W3:=by rw[hW3];exact(zsY _ _).alloc (zsG _) _
 have a7:W3.heap[W2.heap.size]? = some (.cells #[.slice rr prt.length rrc] 50 (0,0)):=by rw[hW3];exact zsH _ _
 have hbA:=(uh HA).1;have hbw3:Below w.heap.size w W3:=(hbA.trans (zab hb1' hbA.size)).trans (zab hb3 (by have:=hbA.size;have:=hb1'.size;omega));have hbs3:Below w1.heap.size w1 W3:=hb2.trans (zab hb3 (by omega));have hk3':∀ {b:Nat} {o:Obj},W2.heap[b]? = some o->W3.heap[b]? = some o:=fun {b o} h=>(hb3.block _ (zsO.1 h).1).trans h;have hs3:=hb3.size;have h1s:=hb1.size;obtain⟨KK,hKK⟩:∃ KK:FwK,KK=(⟨w5.heap.size,G.rules.length,tb,wb,W2.heap.size,A,.slice rr prt.length rrc,w.heap.size,w.heap.size+1,w.heap.size+1+1,w.heap.size+1+1+1,w1.heap.size,w1.heap.size+1,.pointer (some ⟨bb,0,none⟩),#[.int .i64 (l:Nat),.slice rr prt.length rrc,.int .i64 plv,.int .i64 x3,.int .i64 x4,.string x5,.slice x6 n6 c6],.slice (some ⟨tb,0,none⟩) G.rules.length tc,.slice (some ⟨wb,0,none⟩) G.rules.length wcp⟩:FwK):=⟨_,rfl⟩;have hFw0:FwI KK C W WA.heap.size (λ_=>false) true W3:=by
  rw[hKK];have hS3:=zbw hs1 hbs3;exact⟨⟨OO0,_,zaZ (uh Hst) hbw3,hS3,λq hq=>by have hq:q=WA.heap.size:=hq;show w5.heap.size<=q;omega,λq hq m hm ho=>by have hm:m=WA.heap.size:=hm;have:=zaO ((uh Hst).set q hq) ho;omega⟩,zd9 (uh Htab) hbw3,a7,hk3' (uh Ha1),hk3' (uh Ha2),hk3' (uh Ha3),hk3' (uh Ha4),hk3' a5,hk3' a6,by show w5.heap.size<=w1.heap.size;omega,by show w5.heap.size<=w1.heap.size+1;omega,by show wb≠W2.heap.size;omega,by show tb≠w1.heap.size;omega,by show w5.heap.size<=W3.heap.size;omega⟩
 have hbw5:Below w5.heap.size w5 W3:=(uh Hw).trans (zab hbw3 hszw);have hMK:KK.M=w5.heap.size:=by rw[hKK]
 have hBsK:KK.Bs=W2.heap.size:=by rw[hKK]
 have hCb:∀ q,(λk=>k=W2.heap.size\/k<w5.heap.size) q->q<KK.M\/q=KK.Bs:=by
  rintro q (rfl | hq)
  ·exact .inr hBsK.symm
  ·exact .inl (by rw[hMK];exact hq)
 have hseq:=zkE (α:={p:Int × Int // 1<=p.2/\p.2<((G.nk+G.nr:Nat):Int)}) Subtype.val ((zbn prt).attachWith _ (λp hp=>hpy _ (zkG hp))) Fence.wide 19 trivial rfl (by omega) W2.heap.size rr rrc (λk=>k=W2.heap.size\/k<w5.heap.size) prt (ziq _) (by omega) W3 (zsO.1 a7).1 (.inl rfl) (by unfold World.cell?;rw[a7];rfl) (by
  rcases uh Hrr with h | ⟨b9,o9,h1,h2,h3⟩
  ·exact .inl h
  ·exact .inr ⟨b9,o9,h1,by have:=hbw5.size;omega,.inr h2,λj hj=>(hbw5.cell (p:=⟨b9,o9+j,none⟩) h2).trans (h3 j hj)⟩)
 have hJ0:FwJ G KK w5 k nW (zbn prt) (([]:List {p:Int × Int // 1<=p.2/\p.2<((G.nk+G.nr:Nat):Int)}).map Subtype.val) W3:=(uh HJd _ _ _ _).2 ⟨C,W,_,_,_,hFw0,by rw[hMK];exact hbw5,λr=>uh Hlen r,λ_=>⟨uh Hop,be_end G prt⟩⟩;have Hseq:=zaa hseq;have HJ0:=zaa hJ0;have HCb:=zaa hCb;have hb3s:=hb3.size;clear hseq hJ0 hCb hFw0 a7 hb1 hb1' a5 a6 hs1 hb2 hb3 hbA hbw3 hbs3 hk3' hbw5 hs2 hsA HB Ha1 Ha2 Ha3 Ha4 HA Hst Htab Hop Hlen;rw[<- hW3];clear hW3;have hAK:KK.A=A:=by rw[hKK]
 have hnK:KK.n=G.rules.length:=by rw[hKK]
 have HxK:Hid (KK.hx=w1.heap.size/\KK.ex=w1.heap.size+1):=zaa (by rw[hKK];exact⟨rfl,rfl⟩);have hwbK:KK.wb=wb:=by rw[hKK]
 have Hm:Hid (∀ C W S D em V,FwI KK C W S D em V->V.cell? ⟨w.heap.size,0,none⟩=some (.pointer (some ⟨bb,0,none⟩))/\V.cell? ⟨w.heap.size+1,0,none⟩=some (.int .i64 (l:Nat))/\V.cell? ⟨w.heap.size+1+1,0,none⟩=some (.slice (some ⟨tb,0,none⟩) G.rules.length tc)/\V.cell? ⟨w.heap.size+1+1+1,0,none⟩=some (.slice (some ⟨wb,0,none⟩) G.rules.length wcp)/\V.cell? ⟨w1.heap.size,0,none⟩=some (.pointer (some ⟨S,0,none⟩))/\V.cell? ⟨w1.heap.size+1,0,none⟩=some (.bool em)/\V.frozen? ⟨w1.heap.size,0,none⟩=false/\V.frozen? ⟨w1.heap.size+1,0,none⟩=false/\∀ y,y<G.rules.length->V.cell? ⟨tb,y,none⟩=some (.pointer (some ⟨A y,0,none⟩))):=zaa (λC W S D em V h=>by
  subst hKK;obtain⟨OO,O1,h1,-,-,-⟩:=h.st;have g1:V.heap[w.heap.size]? = _:=h.b1;have g2:V.heap[w.heap.size+1]? = _:=h.b2;have g3:V.heap[w.heap.size+1+1]? = _:=h.b3;have g4:V.heap[w.heap.size+1+1+1]? = _:=h.b4;have g5:V.heap[w1.heap.size]? = _:=h.b5;have g6:V.heap[w1.heap.size+1]? = _:=h.b6
  refine⟨by unfold World.cell?;rw[g1];rfl,by unfold World.cell?;rw[g2];rfl,by unfold World.cell?;rw[g3];rfl,by unfold World.cell?;rw[g4];rfl,by unfold World.cell?;rw[g5];rfl,by unfold World.cell?;rw[g6];rfl,by unfold World.frozen?;rw[g5];rfl,by unfold World.frozen?;rw[g6];rfl,λy hy=>(zbP h1 hy).1⟩)
 obtain⟨OO9,rep9,C9,hs9,hC9⟩:=(uh Hbg).st;have HM9:Hid (∀ y,y<G.rules.length->∀ q,OO9 (rep9 y) q->q<KK.M):=zaa (λy hy q hq=>by rw[hMK];exact zaO (hs9.set _ (hs9.rp y hy)) hq);have HF9:=zaa hC9
 have Hn:Hid (∀ V,Below KK.M w5 V->V.cell? ⟨bb,0,none⟩=some (.pointer (some ⟨gb,0,none⟩))/\V.cell? ⟨bb,1,none⟩=some (.slice (some ⟨nb,0,none⟩) G.rules.length G.rules.length)/\V.cell? ⟨bb,2,none⟩=some (.slice (some ⟨sb,0,none⟩) G.rules.length sc)/\V.cell? ⟨gb,0,none⟩=some (.slice ka G.kinds.length kc)/\(∀ y,y<G.rules.length->V.cell? ⟨nb,y,none⟩=some (.bool (zat G y)))/\∀ y,y<G.rules.length->V.cell? ⟨sb,y,none⟩=some (.pointer (some ⟨A2 (rep9 y),0,none⟩))/\SetN V (A2 (rep9 y)) (OO9 (rep9 y)) (C9 (rep9 y))):=zaa (λV hV=>by
  rw[hMK] at hV;have hbg:=zb3 (uh Hbg) hV;have h1':=zaZ hs9 hV
  exact⟨by unfold World.cell?;rw[hbg.bx];rfl,by unfold World.cell?;rw[hbg.bx];rfl,by unfold World.cell?;rw[hbg.bx];rfl,(hV.cell (p:=⟨gb,0,none⟩) (zsQ w5 _ (uh Hc0))).trans (uh Hc0),λy hy=>hbg.nu.cell hy,λy hy=>⟨(zbP h1' hy).1,h1'.set _ (h1'.rp y hy)⟩⟩)
 clear hs9 hC9
 have Hjoin:Hid (∀ C W S D em V y,FwI KK C W S D em V->y<G.rules.length->Calls Tryz.prog 117 #[.pointer (some ⟨A y,0,none⟩),.pointer (some ⟨S,0,none⟩)] V (λe V'=>(∃ c,e=.returned (.int .i64 c))/\FwI KK (upC C y (orF (C y) D)) W S D em V'/\Fr (Mv KK V) V V')):=zaa (λC W S D em V y h hy=>by
  have:=zwq h (y:=y) (by rw[hnK];exact hy);rw[hAK] at this
  exact this)
 have HCb2:Hid (∀ Y Z,Fr (Mv KK Y) Y Z->KeepsFrom W3.heap.size Y Z/\zdE (λk=>k=W2.heap.size\/k<w5.heap.size) Y Z):=zaa (λY Z h=>⟨zj6 h,zs9 h (uh HCb)⟩);have Hbl:Hid (∀ Y Z,Fr (Mv KK Y) Y Z->Below KK.M w5 Y->Below KK.M w5 Z):=zaa (λY Z h hY=>hY.trans (zta h (by have:=hY.size;rw[hMK];rw[hMK] at hY;exact hY.size)))
 have Hway:Hid (∀ C W S D em V (Vv:Nat->Value) (O':Nat->Prop) (W':Nat->List Nat) (V':World),FwI KK C W S D em V->(TabV (zaG G.rules.length wb Vv) V wb G.rules.length Vv (λr=>zag (W r))/\∀ k,zaG G.rules.length wb Vv k->KK.M<=k)->Fr (zaG G.rules.length wb Vv) V V'->zbB O' V' wb G.rules.length (λr=>zag (W' r))->(∀ k,O' k->zaG G.rules.length wb Vv k\/V.heap.size<=k)->FwI KK C W' S D em V'/\Fr (Mv KK V) V V'):=zaa (λC W S D em V Vv O' W' V' h1 h2 h3 h4 h5=>by
  have:=fw_way (V:=Vv) (O':=O') (W':=W') (w':=V') h1 (by rw[hnK,hwbK];exact h2) (by rw[hnK,hwbK];exact h3) (by rw[hnK,hwbK];exact h4) (by rw[hnK,hwbK];exact h5)
  exact this)
 have Htab2:Hid (∀ C W S D em V,FwI KK C W S D em V->∃ Vv,TabV (zaG G.rules.length wb Vv) V wb G.rules.length Vv (λr=>zag (W r))/\∀ k,zaG G.rules.length wb Vv k->KK.M<=k):=zaa (λC W S D em V h=>by
  have:=h.tab;rw[hnK,hwbK] at this
  exact this)
 refine wpIn_rangeFunc_ownH rfl (by omega) (gf:=226) (lb:=#[.pointer (some ⟨W2.heap.size,0,none⟩)]) rfl trivial (enters_of Tryz.func226 (by kernel_rfl) rfl) (uh Hseq) zfP zlw (zsY _ _) (λ_=>rfl)
  (λ(pre:List {p:Int × Int // 1<=p.2/\p.2<((G.nk+G.nr:Nat):Int)}) V=>FwJ G KK w5 k nW (zbn prt) (pre.map Subtype.val) V)
  (λ_ _ _=>False)
  (zwr (by rw[hMK];have:=uh Hs2;have:=uh HsA;omega) _)
  (λc s X Y row hs hg hr=>hs)
  (uh HJ0)
  (λx a' _=>a'={ tmps:=#[.pointer (some ⟨bb,0,none⟩),.agg #[.int .i64 (l:Nat),.slice rr prt.length rrc,.int .i64 plv,.int .i64 x3,.int .i64 x4,.string x5,.slice x6 n6 c6],.slice (some ⟨tb,0,none⟩) G.rules.length tc,.slice (some ⟨wb,0,none⟩) G.rules.length wcp,.pointer (some ⟨w.heap.size,0,none⟩),.pointer (some ⟨w.heap.size+1,0,none⟩),.pointer (some ⟨w.heap.size+1+1,0,none⟩),.pointer (some ⟨w.heap.size+1+1+1,0,none⟩),.pointer (some ⟨w1.heap.size,0,none⟩),.pointer (some ⟨w1.heap.size+1,0,none⟩),undef,.int .i64 x.val.2,undef,undef,.pointer (some ⟨WA.heap.size,0,none⟩),.pointer (some ⟨w.heap.size+1,1,none⟩),.slice rr prt.length rrc,.func (.func 226) #[] #[.pointer (some ⟨W2.heap.size,0,none⟩)],.int .i64 x.val.1,.int .i64 x.val.2,undef,undef,undef,undef,undef,undef,undef,undef,undef,undef,undef,undef,undef,undef,undef,undef,undef,undef,undef,undef,undef,undef,undef,undef,undef,undef,undef,undef,undef,undef,undef,undef,undef,undef,undef,undef,undef,undef,undef,undef,undef,undef,undef,undef,undef,undef,undef,undef,undef,undef,undef,undef,undef,undef,undef,undef,undef,undef],defers:=[] })
  (λ_ _ _ _ _ _ hs _ _=>hs)
  ?assign ?body ?done ?stop
 case assign =>
  clear hMK hBsK hKK;rintro l0 pre x V K hi hK
  gi_wp2
  exact hK _ _ (KeepsFrom.refl _ _) (zfQ _ _) hi rfl
 case stop =>
  rintro D c pre V _ _ h;exact h.elim
 case done =>
  rintro Dd xs V hD rfl hJ hKd;obtain⟨C9,W9,S9,D9,em9,hI,hbV,hlW,hc⟩:=(uh HJd _ _ _ _).1 hJ;rw[ziq] at hlW hc;have hbl:(zbn prt).length=prt.length:=zci prt;obtain⟨hF9,-⟩:=hc (List.prefix_refl _);rw[hbl,Nat.sub_self] at hF9;have hF10:=uh Hsh _ _ _ hF9 (by omega)
  have Hpost:Hid (∀ o',zrF G w5.heap.size w5 k nW tb wb A (V.putObj Dd o')):=zaa (λo'=>by
   have hg:=grownBy_putObj' V Dd o'
   have hI2:=zlG (O:=λq=>some Dd=some q) hI ⟨hg.size,λq hq ho=>hg.block q hq (λe=>ho e.symm),hg.os,hg.tape,hg.output⟩ (λq cs t ho hq=>by
    cases ho
    rw[hKd] at hq;cases hq)
   obtain⟨OO9,O9,h1,-,-,-⟩:=hI2.st;have h2:=hI2.tab;rw[hKK] at h1 h2;refine⟨C9,W9,hF10,⟨OO9,h1⟩,h2,?_⟩;rw[hMK] at hbV
   exact hbV.grown hg (by have:=hbV.size;omega) (λj hj=>by cases hj;have:=uh Hs2;have:=uh HsA;omega))
  clear hI hbV hlW hc hF9 hF10 hJ;clear hMK hBsK hKK
  gi_wp2
  refine⟨by simp,.inl ⟨_,_,rfl,run_takeDeferred hKd,?_⟩⟩;exact⟨_,results_none rfl _ _ _,⟨_,rfl⟩,uh Hpost _⟩
 case body =>
  rintro l0 pre x a' V hl0 ⟨r,hr⟩ hJ rfl hpl;obtain⟨C,W,S,D,em,hI,hbV,hlW,hc⟩:=(uh HJd _ _ _ _).1 hJ;obtain⟨⟨xi,xv⟩,hx1,hx2⟩:=x;simp only at hx1 hx2;have hlm:(pre.map Subtype.val).length=pre.length:=List.length_map _;rw[hlm] at hlW hc;obtain⟨j,hj⟩:∃ j,prt.length=pre.length+1+j:=⟨prt.length - pre.length - 1,by omega⟩
  have Hcond:Hid (((pre ++ [(⟨(xi,xv),hx1,hx2⟩:{p:Int × Int // 1<=p.2/\p.2<((G.nk+G.nr:Nat):Int)})]).map Subtype.val <+: zbn prt)->FlI G (Dn k (j+1)) (nW+pre.length) C W/\BeI G prt (j+1) D em/\prt.getD j 0=xv/\j<prt.length):=zaa (λh=>by
   obtain⟨h1,h2,h3⟩:=zkF Subtype.val h;obtain⟨h4,h5⟩:=hc h1;have e:prt.length - pre.length=j+1:=by omega
   rw[e] at h4 h5;have e2:prt.length - 1 - pre.length=j:=by omega
   rw[e2] at h3
   exact⟨h4,h5,h3.symm,by omega⟩)
  have Hout:Hid (∀ C' W' S' D' em' V',FwI KK C' W' S' D' em' V'->Fr (Mv KK V) V V'->(∀ r,(W' r).length<=nW+pre.length+1)->(((pre ++ [(⟨(xi,xv),hx1,hx2⟩:{p:Int × Int // 1<=p.2/\p.2<((G.nk+G.nr:Nat):Int)})]).map Subtype.val <+: zbn prt)->FlI G (Dn k j) (nW+pre.length+1) C' W'/\BeI G prt j D' em')->ownPostG W3.heap.size (zdE (λk=>k=W2.heap.size\/k<w5.heap.size)) (λ(pre:List {p:Int × Int // 1<=p.2/\p.2<((G.nk+G.nr:Nat):Int)}) V=>FwJ G KK w5 k nW (zbn prt) (pre.map Subtype.val) V) (λ_ _ _=>False) (pre ++ [(⟨(xi,xv),hx1,hx2⟩:{p:Int × Int // 1<=p.2/\p.2<((G.nk+G.nr:Nat):Int)})]) V .normal { tmps:=#[],defers:=[] } V'):=zaa (λC' W' S' D' em' V' h1 h2 h3 h4=>by
   have e3:((pre ++ [(⟨(xi,xv),hx1,hx2⟩:{p:Int × Int // 1<=p.2/\p.2<((G.nk+G.nr:Nat):Int)})]).map Subtype.val).length=pre.length+1:=by simp
   refine⟨(uh HCb2 _ _ h2).1,(uh HCb2 _ _ h2).2,(uh HJd _ _ _ _).2 ⟨C',W',S',D',em',h1,uh Hbl _ _ h2 hbV,by rw[e3];exact h3,?_⟩⟩;rw[e3];intro hp;have e:prt.length - (pre.length+1)=j:=by omega
   rw[e]
   exact h4 hp)
  obtain⟨m1,m2,m3,m4,m5,m6,m7,m8,m9⟩:=uh Hm _ _ _ _ _ _ hI;obtain⟨n1,n2,n3,n4,n5,n6⟩:=uh Hn _ hbV;have hpl64:pre.length<=64:=by omega
  have HR:=zaa (zgl gb xv G.kinds.length ka kc hk3 (by unfold Gm.nk Gm.nr at hx2;omega) V n4);have HI:=zaa hI;have HbV:=zaa hbV;have HlW:=zaa hlW;clear hI hbV hlW hc hJ hr hlm hj;unfold Gm.nk Gm.nr at hx2;by_cases hru:(G.kinds.length:Int)<=xv
  · rw [if_pos hru, decide_eq_true hru] at HR;obtain⟨y,hy⟩:∃ y:Nat,xv - G.kinds.length=(y:Int):=⟨(xv - G.kinds.length).toNat,by omega⟩;have hyn:y<G.rules.length:=by omega
    have hyn':(y:Int)<G.rules.length:=by omega
    have ey:(xv - G.nk).toNat=y:=by show (xv - (G.kinds.length:Nat)).toNat=y;omega
    have hnx:(G.nk:Int)<=xv:=hru;have m9y:=m9 y hyn
    have Hfl:Hid (((pre ++ [(⟨(xi,xv),hx1,hx2⟩:{p:Int × Int // 1<=p.2/\p.2<((G.nk+G.nr:Nat):Int)})]).map Subtype.val <+: zbn prt)->FlI G (Dn k j) (nW+pre.length+1) (upC C y (orF (C y) D)) (if em then upW W y l else W)):=zaa (λhp=>by
      obtain⟨h1,h2,h3,h4⟩:=uh Hcond hp
      exact uh Hrl j _ y C W D em h1 h4 (by rw[h3];exact hnx) h2 (by rw[h3];exact ey))
    have Hbe:Hid (((pre ++ [(⟨(xi,xv),hx1,hx2⟩:{p:Int × Int // 1<=p.2/\p.2<((G.nk+G.nr:Nat):Int)})]).map Subtype.val <+: zbn prt)->BeI G prt (j+1) D em/\prt.getD j 0=xv/\j<prt.length):=zaa (λhp=>(uh Hcond hp).2);rw[hy] at HR;clear Hcond n5 n6 m9
    gi_wp2_with fail
    refine⟨trivial,(CallsIn.inRound l0 (callsIn_wide.2 (uh HR))).mono ?_⟩;rintro e w9 ⟨rfl,rfl⟩
    gi_wp2_with fail
    refine zaM (S:=(λU:World=>U.cell? ⟨w.heap.size+1+1,0,none⟩=some (.slice (some ⟨tb,0,none⟩) G.rules.length tc)/\U.cell? ⟨tb,y,none⟩=some (.pointer (some ⟨A y,0,none⟩))/\U.cell? ⟨w1.heap.size,0,none⟩=some (.pointer (some ⟨S,0,none⟩)))) (by kernel_rfl) (by kernel_rfl) (by exact⟨m3,m9y,m5⟩) (λhH=>?_);refine zad 0 30 rfl rfl hH (λw ⟨k0,k1,k2⟩=>by go_simp;try rfl) ?_;simp only[Act.put,zsA,zsB,zsC];refine zad 1 31 rfl rfl hH (λw ⟨k0,k1,k2⟩=>by go_simp;try rfl) ?_;simp only[Act.put,zsA,zsB,zsC];refine zad 2 32 rfl rfl hH (λw ⟨k0,k1,k2⟩=>by go_simp;try rfl) ?_;simp only[Act.put,zsA,zsB,zsC];refine zad 3 33 rfl rfl hH (λw ⟨k0,k1,k2⟩=>by go_simp;try rfl) ?_;simp only[Act.put,zsA,zsB,zsC];refine zad 4 34 rfl rfl hH (λw ⟨k0,k1,k2⟩=>by go_simp;try rfl) ?_;simp only[Act.put,zsA,zsB,zsC];refine zai 5 rfl λK hK=>?_;go_simp;refine(uh Hjoin _ _ _ _ _ _ _ (zb7 (uh HI) (zsY _ _).drew) hyn).mono ?_;rintro e V6 ⟨⟨cj6,rfl⟩,hI6,hf6⟩;have hf6:Fr (Mv KK V) V V6:=hf6;have hq6:=uh Hm _ _ _ _ _ _ hI6;go_wp2_with fail;refine hK.out _ _ (⟨hq6.2.2.1,hq6.2.2.2.2.2.2.2.2 y hyn,hq6.2.2.2.2.1⟩) (λhH=>?_);clear hK K;refine wpAnyH_done (by kernel_rfl) ?_ _;refine OnlyN.mk ?_;have HI6:=zaa hI6;have Hf6:=zaa hf6;have Hb6:=zaa (uh Hbl _ _ hf6 (uh HbV));clear hI6 hf6 HI hH m1 m2 m3 m4 m5 m6 m7 m8 n1 n2 n3 n4;obtain⟨m1,m2,m3,m4,m5,m6,m7,m8,-⟩:=hq6
    cases em with
    | false =>
      have Hfl2:Hid (((pre ++ [(⟨(xi,xv),hx1,hx2⟩:{p:Int × Int // 1<=p.2/\p.2<((G.nk+G.nr:Nat):Int)})]).map Subtype.val <+: zbn prt)->FlI G (Dn k j) (nW+pre.length+1) (upC C y (orF (C y) D)) W):=zaa (λhp=>uh Hfl hp);have HIn:=HI6;have Hfn:=Hf6;have Hbn:=Hb6;obtain⟨p1,p2,p3,p4,p5,p6,p7,p8,-⟩:=uh Hm _ _ _ _ _ _ (uh HIn);obtain⟨q1,q2,q3,q4,q5,q6⟩:=uh Hn _ (uh Hbn);have q5y:=q5 y hyn;clear m1 m2 m3 m4 m5 m6 m7 m8 q5
      cases hnu:zat G y with
      | true =>
        rw[hnu] at q5y
        gi_wp2_with fail
        refine zaM (S:=(λU:World=>U.cell? ⟨w1.heap.size,0,none⟩=some (.pointer (some ⟨S,0,none⟩))/\U.cell? ⟨w.heap.size,0,none⟩=some (.pointer (some ⟨bb,0,none⟩))/\U.cell? ⟨bb,2,none⟩=some (.slice (some ⟨sb,0,none⟩) G.rules.length sc)/\U.cell? ⟨sb,y,none⟩=some (.pointer (some ⟨A2 (rep9 y),0,none⟩)))) (by kernel_rfl) (by kernel_rfl) (by exact⟨p5,p1,q3,(q6 y hyn).1⟩) (λhH=>?_);refine zad 0 65 rfl rfl hH (λw ⟨k0,k1,k2,k3⟩=>by go_simp;try rfl) ?_;simp only[Act.put,zsA,zsB,zsC];refine zad 1 66 rfl rfl hH (λw ⟨k0,k1,k2,k3⟩=>by go_simp;try rfl) ?_;simp only[Act.put,zsA,zsB,zsC];refine zad 2 67 rfl rfl hH (λw ⟨k0,k1,k2,k3⟩=>by go_simp;try rfl) ?_;simp only[Act.put,zsA,zsB,zsC];refine zad 3 68 rfl rfl hH (λw ⟨k0,k1,k2,k3⟩=>by go_simp;try rfl) ?_;simp only[Act.put,zsA,zsB,zsC];refine zad 4 69 rfl rfl hH (λw ⟨k0,k1,k2,k3⟩=>by go_simp;try rfl) ?_;simp only[Act.put,zsA,zsB,zsC];refine zad 5 70 rfl rfl hH (λw ⟨k0,k1,k2,k3⟩=>by go_simp;try rfl) ?_;simp only[Act.put,zsA,zsB,zsC];refine zad 6 71 rfl rfl hH (λw ⟨k0,k1,k2,k3⟩=>by go_simp;try rfl) ?_;simp only[Act.put,zsA,zsB,zsC];refine zad 7 72 rfl rfl hH (λw ⟨k0,k1,k2,k3⟩=>by go_simp;try rfl) ?_;simp only[Act.put,zsA,zsB,zsC];refine zai 8 rfl λK hK=>?_;go_simp;refine(zgu (zb7 (uh HIn) (zsY _ _).drew) (zbw (q6 y hyn).2 (zsY _ _).drew) (uh HM9 y hyn)).mono ?_;rintro e V12 ⟨⟨c12,rfl⟩,hI12,hf12⟩;have hf12:Fr (Mv KK V6) V6 V12:=hf12;have hp12:=uh Hm _ _ _ _ _ _ hI12;have hb12:=uh Hbl _ _ hf12 (uh Hbn);have hq12:=uh Hn _ hb12;go_wp2_with fail;refine hK.out _ _ (⟨hp12.2.2.2.2.1,hp12.1,hq12.2.2.1,(hq12.2.2.2.2.2 y hyn).1⟩) (λhH=>?_);clear hK K;refine wpAnyH_done (by kernel_rfl) ?_ _;refine OnlyN.mk ?_;have HI12:=zaa hI12;have Hf12:=zaa (zuA (uh Hfn) hf12);clear hI12 hf12 hp12 hq12 hH hb12
        gi_wp2
        exact uh Hout _ _ _ _ _ _ (uh HI12) (uh Hf12) (λr=>by have:=uh HlW r;omega) (λhp=>⟨uh Hfl2 hp,by
          obtain⟨h1,h2,h3⟩:=uh Hbe hp;refine zrj h1 h3 (by rw[h2];exact hnx) (by rw[h2,ey];exact hnu) (λm=>?_)
          rw[h2,ey];exact uh HF9 y hyn m⟩)
      | false =>
        rw[hnu] at q5y
        gi_wp2_with fail
        refine⟨trivial,(CallsIn.inRound l0 (callsIn_wide.2 (zda V6))).mono ?_⟩;rintro e V10 ⟨rfl,hb10,hlt10,hs10⟩;have hI10:=zb7 (uh HIn) hb10;obtain⟨r1,r2,r3,r4,r5,r6,r7,r8,-⟩:=uh Hm _ _ _ _ _ _ hI10;have hst10:=zqu hI10 (.pointer (some ⟨V6.heap.size,0,none⟩)) (.bool false);obtain⟨hfr10,h10a,h10b⟩:=hst10;obtain⟨hI11,hf11⟩:=zha (S':=V6.heap.size) (em':=false) (uh HIn) hb10 hs10 (λq hq=>by have hq:q=V6.heap.size:=hq;omega) hfr10 h10a h10b;rw[(uh HxK).1,(uh HxK).2] at hI11 hf11;have hne10:w1.heap.size≠w1.heap.size+1:=by omega
        have hne11:w1.heap.size+1≠w1.heap.size:=by omega
        have HI11:=zaa hI11;have Hf11:=zaa (zuA (uh Hfn) hf11);have Hb11:=zaa (uh Hbl _ _ hf11 (uh Hbn));clear hI11 hf11 hfr10 h10a h10b hI10 hb10 hs10 p1 p2 p3 p4 p5 p6 p7 p8 q1 q2 q3 q4 q6 q5y
        gi_wp2_with fail
        generalize (V10.setCell ⟨w1.heap.size,0,none⟩ (.pointer (some ⟨V6.heap.size,0,none⟩))).setCell ⟨w1.heap.size+1,0,none⟩ (.bool false)=V11 at *;clear HIn Hfn Hbn;have HIn:=HI11;have Hfn:=Hf11;have Hbn:=Hb11;obtain⟨p1,p2,p3,p4,p5,p6,p7,p8,-⟩:=uh Hm _ _ _ _ _ _ (uh HIn);obtain⟨q1,q2,q3,q4,q5,q6⟩:=uh Hn _ (uh Hbn);refine zaM (S:=(λU:World=>U.cell? ⟨w1.heap.size,0,none⟩=some (.pointer (some ⟨V6.heap.size,0,none⟩))/\U.cell? ⟨w.heap.size,0,none⟩=some (.pointer (some ⟨bb,0,none⟩))/\U.cell? ⟨bb,2,none⟩=some (.slice (some ⟨sb,0,none⟩) G.rules.length sc)/\U.cell? ⟨sb,y,none⟩=some (.pointer (some ⟨A2 (rep9 y),0,none⟩)))) (by kernel_rfl) (by kernel_rfl) (by exact⟨p5,p1,q3,(q6 y hyn).1⟩) (λhH=>?_);refine zad 0 65 rfl rfl hH (λw ⟨k0,k1,k2,k3⟩=>by go_simp;try rfl) ?_;simp only[Act.put,zsA,zsB,zsC];refine zad 1 66 rfl rfl hH (λw ⟨k0,k1,k2,k3⟩=>by go_simp;try rfl) ?_;simp only[Act.put,zsA,zsB,zsC];refine zad 2 67 rfl rfl hH (λw ⟨k0,k1,k2,k3⟩=>by go_simp;try rfl) ?_;simp only[Act.put,zsA,zsB,zsC];refine zad 3 68 rfl rfl hH (λw ⟨k0,k1,k2,k3⟩=>by go_simp;try rfl) ?_;simp only[Act.put,zsA,zsB,zsC];refine zad 4 69 rfl rfl hH (λw ⟨k0,k1,k2,k3⟩=>by go_simp;try rfl) ?_;simp only[Act.put,zsA,zsB,zsC];refine zad 5 70 rfl rfl hH (λw ⟨k0,k1,k2,k3⟩=>by go_simp;try rfl) ?_;simp only[Act.put,zsA,zsB,zsC];refine zad 6 71 rfl rfl hH (λw ⟨k0,k1,k2,k3⟩=>by go_simp;try rfl) ?_;simp only[Act.put,zsA,zsB,zsC];refine zad 7 72 rfl rfl hH (λw ⟨k0,k1,k2,k3⟩=>by go_simp;try rfl) ?_;simp only[Act.put,zsA,zsB,zsC];refine zai 8 rfl λK hK=>?_;go_simp;refine(zgu (zb7 (uh HIn) (zsY _ _).drew) (zbw (q6 y hyn).2 (zsY _ _).drew) (uh HM9 y hyn)).mono ?_;rintro e V12 ⟨⟨c12,rfl⟩,hI12,hf12⟩;have hf12:Fr (Mv KK V11) V11 V12:=hf12;have hp12:=uh Hm _ _ _ _ _ _ hI12;have hb12:=uh Hbl _ _ hf12 (uh Hbn);have hq12:=uh Hn _ hb12;go_wp2_with fail;refine hK.out _ _ (⟨hp12.2.2.2.2.1,hp12.1,hq12.2.2.1,(hq12.2.2.2.2.2 y hyn).1⟩) (λhH=>?_);clear hK K;refine wpAnyH_done (by kernel_rfl) ?_ _;refine OnlyN.mk ?_;have HI12:=zaa hI12;have Hf12:=zaa (zuA (uh Hfn) hf12);clear hI12 hf12 hp12 hq12 hH hb12
        gi_wp2
        exact uh Hout _ _ _ _ _ _ (uh HI12) (uh Hf12) (λr=>by have:=uh HlW r;omega) (λhp=>⟨uh Hfl2 hp,by
          obtain⟨h1,h2,h3⟩:=uh Hbe hp;refine zrk h3 (by rw[h2];exact hnx) (by rw[h2,ey];exact hnu) (λm=>?_)
          rw[h2,ey];exact uh HF9 y hyn m⟩)
    | true =>
      have Hfl2:Hid (((pre ++ [(⟨(xi,xv),hx1,hx2⟩:{p:Int × Int // 1<=p.2/\p.2<((G.nk+G.nr:Nat):Int)})]).map Subtype.val <+: zbn prt)->FlI G (Dn k j) (nW+pre.length+1) (upC C y (orF (C y) D)) (upW W y l)):=zaa (λhp=>uh Hfl hp);obtain⟨Vv,hV,hVM⟩:=uh Htab2 _ _ _ _ _ _ (uh HI6);obtain⟨ta,tc9,hVl,tcl,-,-⟩:=za6 hV hyn;have HVV:=zaa (And.intro hV hVM);have g4:V6.heap[w.heap.size+1+1+1]? = some (.cells #[.slice (some ⟨wb,0,none⟩) G.rules.length wcp] 221 (0,0)):=by
        have:=(uh HI6).b4;rw[hKK] at this;exact this
      have g2:V6.heap[w.heap.size+1]? = some (.cells #[.int .i64 (l:Nat),.slice rr prt.length rrc,.int .i64 plv,.int .i64 x3,.int .i64 x4,.string x5,.slice x6 n6 c6] 116 (0,0)):=by
        have:=(uh HI6).b2;rw[hKK] at this;exact this
      have HS:Hid (∀ W',Fr (zaG G.rules.length wb Vv) V6 W'->(λU:World=>U.cell? ⟨w.heap.size+1+1+1,0,none⟩=some (.slice (some ⟨wb,0,none⟩) G.rules.length wcp)/\U.cell? ⟨w.heap.size+1,0,none⟩=some (.int .i64 (l:Nat))) W'):=zaa (λW' hf=>by
        have hno:∀ {k t:Nat} {cs:Array Value},V6.heap[k]? = some (.cells cs t (0,0))->t≠50->t≠3->¬ zaG G.rules.length wb Vv k:=fun {k t cs} hk n1 n2 ho=>by
          obtain⟨ds,u,h3,h4⟩:=zdi hV ho;rw[hk] at h3;simp only[Option.some.injEq,Obj.cells.injEq] at h3;obtain⟨-,rfl,-⟩:=h3;exact h4.elim n1 n2
        have e1:=(hf.2.1 _ (zsO.1 g4).1 (hno g4 (by decide) (by decide))).trans g4;have e2:=(hf.2.1 _ (zsO.1 g2).1 (hno g2 (by decide) (by decide))).trans g2
        exact⟨by unfold World.cell?;rw[e1];rfl,by unfold World.cell?;rw[e2];rfl⟩)
      have HFin:Hid (∀ (V':World) (O':Nat->Prop),zbB O' V' wb G.rules.length (zkO (λr=>zag (W r)) y (zag (W y) ++ [((l:Nat):Int)]))->Fr (zaG G.rules.length wb Vv) V6 V'->(∀ k,O' k->zaG G.rules.length wb Vv k\/V6.heap.size<=k)->FwI KK (upC C y (orF (C y) D)) (upW W y l) S D true V'/\Fr (Mv KK V6) V6 V'):=zaa (λV' O' h1 h2 h3=>by
        rw[zhK] at h1
        exact uh Hway _ _ _ _ _ _ Vv O' (upW W y l) V' (uh HI6) (uh HVV) h2 h1 h3)
      have HT:=zaa hV;have HRow:=zaa (show V6.ownsRow 0 3 1 (.slice ta (zag (W y)).length tc9) (zag (W y)).length (zao (zag (W y))) by rw[<- hVl];exact(hV.rows y hyn).1);have HVl:=zaa hVl;have hlen:(zag (W y)).length<=300000:=by rw[zam];have:=uh HlW y;omega
      have hlr:=hyn;have hF0:Fr (zaG G.rules.length wb Vv) V6 V6:=zax _ _;obtain⟨i3,hi3,hz30,hz31,hz32⟩:=zah zdB;generalize hFl:zag (W y)=Fl at *;clear hV hVM hVl g2 g4 hFl
      gi_wp2_with fail
      refine zaM (S:=(λU:World=>U.cell? ⟨w.heap.size+1+1+1,0,none⟩=some (.slice (some ⟨wb,0,none⟩) G.rules.length wcp)/\U.cell? ⟨w.heap.size+1,0,none⟩=some (.int .i64 (l:Nat)))) (by kernel_rfl) (by kernel_rfl) (uh HS _ hF0) (λhH=>?_);refine zad 0 40 rfl rfl hH (λw ⟨k0,k1⟩=>by go_simp;try rfl) ?_;simp only[Act.put,zsA,zsB,zsC];refine zad 1 41 rfl rfl hH (λw ⟨k0,k1⟩=>by go_simp;try rfl) ?_;simp only[Act.put,zsA,zsB,zsC];refine zad 2 42 rfl rfl hH (λw ⟨k0,k1⟩=>by go_simp;try rfl) ?_;simp only[Act.put,zsA,zsB,zsC];refine zad 3 43 rfl rfl hH (λw ⟨k0,k1⟩=>by go_simp;try rfl) ?_;simp only[Act.put,zsA,zsB,zsC];refine zad 4 44 rfl rfl hH (λw ⟨k0,k1⟩=>by go_simp;try rfl) ?_;simp only[Act.put,zsA,zsB,zsC];refine zad 6 46 rfl rfl hH (λw ⟨k0,k1⟩=>by go_simp;try rfl) ?_;simp only[Act.put,zsA,zsB,zsC];refine zad 7 47 rfl rfl hH (λw ⟨k0,k1⟩=>by go_simp;try rfl) ?_;simp only[Act.put,zsA,zsB,zsC];refine zcV 5 8 rfl rfl (λK hK=>?_) λK hK=>?_;go_simp;refine hK.out _ _ (uh HS _ hF0) (λhH=>?_);clear hK K;refine zai 8 rfl λK hK=>?_;go_simp;have hj9:(V6.alloc (.cells #[.int .i64 ((l:Nat):Int)] 3)).heap[V6.heap.size]? = some (.cells #[.int .i64 ((l:Nat):Int)] 3):=zsH _ _;have hbA:Below V6.heap.size V6 (V6.alloc (.cells #[.int .i64 ((l:Nat):Int)] 3)):=(zsY _ _).alloc (zsG _) _;have hF:=zdc hF0 hbA;rotate_left;go_simp;have hj9:(V6.alloc (.cells #[.int .i64 ((l:Nat):Int)] 3)).heap[V6.heap.size]? = some (.cells #[.int .i64 ((l:Nat):Int)] 3):=zsH _ _;have hbA:Below V6.heap.size V6 (V6.alloc (.cells #[.int .i64 ((l:Nat):Int)] 3)):=(zsY _ _).alloc (zsG _) _;have hF:=zdc hF0 hbA;refine hK.out _ _ (uh HS _ hF) (λhH=>?_);clear hK K;refine zai 5 rfl λK hK=>?_;have tcl2:(V6.alloc (.cells #[.int .i64 ((l:Nat):Int)] 3)).cell? ⟨wb,y,none⟩=some (.slice ta Fl.length tc9):=(hbA.cell (p:=⟨wb,y,none⟩) ((uh HT).lt _ (uh HT).own)).trans tcl;go_simp;rotate_left
      all_goals
        refine hK.out _ _ (uh HS _ hF) (λhH=>?_);clear hK K;refine zai 9 rfl λK hK=>?_;have ow:=zaR (zaW (uh HRow) hbA) (zsG _);refine step_append_lies _ rfl (.tmp 45) (.tmp 48) 50 rfl 0 3 i3 (.int .i64 0) 1 8 Tryz.underlying50 hi3 hz30 hz31 hz32 rfl (by decide) (.slice ta Fl.length tc9) Fl.length (zao Fl) (by simp[Act.eval]) ow ⟨V6.heap.size,0,none⟩ 1 1 [.int .i64 ((l:Nat):Int)] (by simp[Act.eval]) rfl (λj u hu=>zeM hj9 hu) (λu hu=>by simp at hu;subst hu;rfl) (by decide) (by unfold maxLen;omega) (by omega) (zsK _) _ rfl ?_;intro g cap W6 ho6 hg6 hw6 hlt6;have hg6:(V6.alloc (.cells #[.int .i64 ((l:Nat):Int)] 3)).grownBy W6 (Value.ownBlock (.slice ta Fl.length tc9)):=⟨hg6.os,hg6.tape,hg6.output,hg6.size,hg6.block⟩;rw[<- uh HVl] at hg6 hw6;have ho6:W6.ownsRow 0 3 1 (.slice (some ⟨g,0,none⟩) (Fl ++ [((l:Nat):Int)]).length cap) (Fl ++ [((l:Nat):Int)]).length (zao (Fl ++ [((l:Nat):Int)])):=by rw[<- zaY,zsI];exact ho6
        obtain⟨hT7,hF7⟩:=zd8 (uh HT) hlr hbA rfl ho6 hg6 hw6 hlt6;have hF6:Fr _ V6 W6:=⟨zsy hF.1 hg6.size,λj hj ho=>(hg6.block j (zsJ hj hF.1) (λe=>ho (((uh HT).rows _ hlr).2 j e.symm))).trans (hF.2.1 j hj ho),hg6.os.trans hF.2.2.1,hg6.tape.trans hF.2.2.2.1,hg6.output.trans hF.2.2.2.2⟩;go_simp;refine hK.out _ _ (uh HS _ hF6) (λhH=>?_);clear hK K;refine zad 10 50 rfl rfl hH (λw ⟨k0,k1⟩=>by go_simp;try rfl) ?_;simp only[Act.put,zsA,zsB,zsC];refine zai 11 rfl λK hK=>?_;have hfz:W6.frozen? ⟨wb,y,none⟩=false:=(zbI (uh HT) hlr hbA hg6);have hcz:=zcs (uh HT) hlr hbA hg6;rw[uh HVl] at hcz;go_simp;have hlen6:(Fl ++ [((l:Nat):Int)]).length=Fl.length+1:=by simp
        rw[hlen6] at hT7 hF7;refine hK.out _ _ (uh HS _ hF7) (λhH=>?_);clear hK K;refine wpAnyH_done (by kernel_rfl) ?_ _;have HT7:=zaa hT7;have HF7:=zaa hF7;have hs6:=hg6.size;clear ow hT7 hF7 hF6 ho6 hg6 hw6 hlt6 hfz hcz hF hj9 hlen6 hH;refine OnlyN.mk ?_;obtain⟨hI8,hf8⟩:=uh HFin _ _ (uh HT7) (uh HF7) (λk hk=>hk.imp id (λh=>h.1));have HI8:=zaa hI8;have Hf8:=zaa (zuA (uh Hf6) hf8);have Hb8:=zaa (uh Hbl _ _ hf8 (uh Hb6));clear hI8 hf8 HT7 HF7 HFin HT HVl HRow HVV HS tcl hF0 HI6 Hb6;generalize W6.setCell ⟨wb,y,none⟩ (.slice (some ⟨g,0,none⟩) (Fl.length+1) cap)=V8 at *;have HIn:=HI8;have Hfn:=Hf8;have Hbn:=Hb8;obtain⟨p1,p2,p3,p4,p5,p6,p7,p8,-⟩:=uh Hm _ _ _ _ _ _ (uh HIn);obtain⟨q1,q2,q3,q4,q5,q6⟩:=uh Hn _ (uh Hbn);have q5y:=q5 y hyn;clear m1 m2 m3 m4 m5 m6 m7 m8 q5
        cases hnu:zat G y with
        | true =>
          rw[hnu] at q5y
          gi_wp2_with fail
          refine zaM (S:=(λU:World=>U.cell? ⟨w1.heap.size,0,none⟩=some (.pointer (some ⟨S,0,none⟩))/\U.cell? ⟨w.heap.size,0,none⟩=some (.pointer (some ⟨bb,0,none⟩))/\U.cell? ⟨bb,2,none⟩=some (.slice (some ⟨sb,0,none⟩) G.rules.length sc)/\U.cell? ⟨sb,y,none⟩=some (.pointer (some ⟨A2 (rep9 y),0,none⟩)))) (by kernel_rfl) (by kernel_rfl) (by exact⟨p5,p1,q3,(q6 y hyn).1⟩) (λhH=>?_);refine zad 0 65 rfl rfl hH (λw ⟨k0,k1,k2,k3⟩=>by go_simp;try rfl) ?_;simp only[Act.put,zsA,zsB,zsC];refine zad 1 66 rfl rfl hH (λw ⟨k0,k1,k2,k3⟩=>by go_simp;try rfl) ?_;simp only[Act.put,zsA,zsB,zsC];refine zad 2 67 rfl rfl hH (λw ⟨k0,k1,k2,k3⟩=>by go_simp;try rfl) ?_;simp only[Act.put,zsA,zsB,zsC];refine zad 3 68 rfl rfl hH (λw ⟨k0,k1,k2,k3⟩=>by go_simp;try rfl) ?_;simp only[Act.put,zsA,zsB,zsC];refine zad 4 69 rfl rfl hH (λw ⟨k0,k1,k2,k3⟩=>by go_simp;try rfl) ?_;simp only[Act.put,zsA,zsB,zsC];refine zad 5 70 rfl rfl hH (λw ⟨k0,k1,k2,k3⟩=>by go_simp;try rfl) ?_;simp only[Act.put,zsA,zsB,zsC];refine zad 6 71 rfl rfl hH (λw ⟨k0,k1,k2,k3⟩=>by go_simp;try rfl) ?_;simp only[Act.put,zsA,zsB,zsC];refine zad 7 72 rfl rfl hH (λw ⟨k0,k1,k2,k3⟩=>by go_simp;try rfl) ?_;simp only[Act.put,zsA,zsB,zsC];refine zai 8 rfl λK hK=>?_;go_simp;refine(zgu (zb7 (uh HIn) (zsY _ _).drew) (zbw (q6 y hyn).2 (zsY _ _).drew) (uh HM9 y hyn)).mono ?_;rintro e V12 ⟨⟨c12,rfl⟩,hI12,hf12⟩;have hf12:Fr (Mv KK V8) V8 V12:=hf12;have hp12:=uh Hm _ _ _ _ _ _ hI12;have hb12:=uh Hbl _ _ hf12 (uh Hbn);have hq12:=uh Hn _ hb12;go_wp2_with fail;refine hK.out _ _ (⟨hp12.2.2.2.2.1,hp12.1,hq12.2.2.1,(hq12.2.2.2.2.2 y hyn).1⟩) (λhH=>?_);clear hK K;refine wpAnyH_done (by kernel_rfl) ?_ _;refine OnlyN.mk ?_;have HI12:=zaa hI12;have Hf12:=zaa (zuA (uh Hfn) hf12);clear hI12 hf12 hp12 hq12 hH hb12
          gi_wp2
          exact uh Hout _ _ _ _ _ _ (uh HI12) (uh Hf12) (λr=>by have h1:=uh HlW r;have h2:=zit W y l r;omega) (λhp=>⟨uh Hfl2 hp,by
          obtain⟨h1,h2,h3⟩:=uh Hbe hp;refine zrj h1 h3 (by rw[h2];exact hnx) (by rw[h2,ey];exact hnu) (λm=>?_)
          rw[h2,ey];exact uh HF9 y hyn m⟩)
        | false =>
          rw[hnu] at q5y
          gi_wp2_with fail
          refine⟨trivial,(CallsIn.inRound l0 (callsIn_wide.2 (zda V8))).mono ?_⟩;rintro e V10 ⟨rfl,hb10,hlt10,hs10⟩;have hI10:=zb7 (uh HIn) hb10;obtain⟨r1,r2,r3,r4,r5,r6,r7,r8,-⟩:=uh Hm _ _ _ _ _ _ hI10;have hst10:=zqu hI10 (.pointer (some ⟨V8.heap.size,0,none⟩)) (.bool false);obtain⟨hfr10,h10a,h10b⟩:=hst10;obtain⟨hI11,hf11⟩:=zha (S':=V8.heap.size) (em':=false) (uh HIn) hb10 hs10 (λq hq=>by have hq:q=V8.heap.size:=hq;omega) hfr10 h10a h10b;rw[(uh HxK).1,(uh HxK).2] at hI11 hf11;have hne10:w1.heap.size≠w1.heap.size+1:=by omega
          have hne11:w1.heap.size+1≠w1.heap.size:=by omega
          have HI11:=zaa hI11;have Hf11:=zaa (zuA (uh Hfn) hf11);have Hb11:=zaa (uh Hbl _ _ hf11 (uh Hbn));clear hI11 hf11 hfr10 h10a h10b hI10 hb10 hs10 p1 p2 p3 p4 p5 p6 p7 p8 q1 q2 q3 q4 q6 q5y
          gi_wp2_with fail
          generalize (V10.setCell ⟨w1.heap.size,0,none⟩ (.pointer (some ⟨V8.heap.size,0,none⟩))).setCell ⟨w1.heap.size+1,0,none⟩ (.bool false)=V11 at *;clear HIn Hfn Hbn;have HIn:=HI11;have Hfn:=Hf11;have Hbn:=Hb11;obtain⟨p1,p2,p3,p4,p5,p6,p7,p8,-⟩:=uh Hm _ _ _ _ _ _ (uh HIn);obtain⟨q1,q2,q3,q4,q5,q6⟩:=uh Hn _ (uh Hbn);refine zaM (S:=(λU:World=>U.cell? ⟨w1.heap.size,0,none⟩=some (.pointer (some ⟨V8.heap.size,0,none⟩))/\U.cell? ⟨w.heap.size,0,none⟩=some (.pointer (some ⟨bb,0,none⟩))/\U.cell? ⟨bb,2,none⟩=some (.slice (some ⟨sb,0,none⟩) G.rules.length sc)/\U.cell? ⟨sb,y,none⟩=some (.pointer (some ⟨A2 (rep9 y),0,none⟩)))) (by kernel_rfl) (by kernel_rfl) (by exact⟨p5,p1,q3,(q6 y hyn).1⟩) (λhH=>?_);refine zad 0 65 rfl rfl hH (λw ⟨k0,k1,k2,k3⟩=>by go_simp;try rfl) ?_;simp only[Act.put,zsA,zsB,zsC];refine zad 1 66 rfl rfl hH (λw ⟨k0,k1,k2,k3⟩=>by go_simp;try rfl) ?_;simp only[Act.put,zsA,zsB,zsC];refine zad 2 67 rfl rfl hH (λw ⟨k0,k1,k2,k3⟩=>by go_simp;try rfl) ?_;simp only[Act.put,zsA,zsB,zsC];refine zad 3 68 rfl rfl hH (λw ⟨k0,k1,k2,k3⟩=>by go_simp;try rfl) ?_;simp only[Act.put,zsA,zsB,zsC];refine zad 4 69 rfl rfl hH (λw ⟨k0,k1,k2,k3⟩=>by go_simp;try rfl) ?_;simp only[Act.put,zsA,zsB,zsC];refine zad 5 70 rfl rfl hH (λw ⟨k0,k1,k2,k3⟩=>by go_simp;try rfl) ?_;simp only[Act.put,zsA,zsB,zsC];refine zad 6 71 rfl rfl hH (λw ⟨k0,k1,k2,k3⟩=>by go_simp;try rfl) ?_;simp only[Act.put,zsA,zsB,zsC];refine zad 7 72 rfl rfl hH (λw ⟨k0,k1,k2,k3⟩=>by go_simp;try rfl) ?_;simp only[Act.put,zsA,zsB,zsC];refine zai 8 rfl λK hK=>?_;go_simp;refine(zgu (zb7 (uh HIn) (zsY _ _).drew) (zbw (q6 y hyn).2 (zsY _ _).drew) (uh HM9 y hyn)).mono ?_;rintro e V12 ⟨⟨c12,rfl⟩,hI12,hf12⟩;have hf12:Fr (Mv KK V11) V11 V12:=hf12;have hp12:=uh Hm _ _ _ _ _ _ hI12;have hb12:=uh Hbl _ _ hf12 (uh Hbn);have hq12:=uh Hn _ hb12;go_wp2_with fail;refine hK.out _ _ (⟨hp12.2.2.2.2.1,hp12.1,hq12.2.2.1,(hq12.2.2.2.2.2 y hyn).1⟩) (λhH=>?_);clear hK K;refine wpAnyH_done (by kernel_rfl) ?_ _;refine OnlyN.mk ?_;have HI12:=zaa hI12;have Hf12:=zaa (zuA (uh Hfn) hf12);clear hI12 hf12 hp12 hq12 hH hb12
          gi_wp2
          exact uh Hout _ _ _ _ _ _ (uh HI12) (uh Hf12) (λr=>by have h1:=uh HlW r;have h2:=zit W y l r;omega) (λhp=>⟨uh Hfl2 hp,by
          obtain⟨h1,h2,h3⟩:=uh Hbe hp;refine zrk h3 (by rw[h2];exact hnx) (by rw[h2,ey];exact hnu) (λm=>?_)
          rw[h2,ey];exact uh HF9 y hyn m⟩)
  · rw[if_neg hru,decide_eq_false hru] at HR;have hx9:xv<(G.nk:Int):=by show xv<((G.kinds.length:Nat):Int);omega
    have Hfl2:Hid (((pre ++ [(⟨(xi,xv),hx1,hx2⟩:{p:Int × Int // 1<=p.2/\p.2<((G.nk+G.nr:Nat):Int)})]).map Subtype.val <+: zbn prt)->FlI G (Dn k j) (nW+pre.length+1) C W):=zaa (λhp=>by
      obtain⟨h1,h2,h3,h4⟩:=uh Hcond hp
      exact uh Hkd j _ C W h1 (by rw[h3];exact hx9))
    have Hbe2:Hid (((pre ++ [(⟨(xi,xv),hx1,hx2⟩:{p:Int × Int // 1<=p.2/\p.2<((G.nk+G.nr:Nat):Int)})]).map Subtype.val <+: zbn prt)->BeI G prt j (zkS (λ_=>false) xv) false):=zaa (λhp=>by
      obtain⟨h1,h2,h3,h4⟩:=uh Hcond hp;have:=zxb (G:=G) h4 (by rw[h3];omega) (by rw[h3];exact hx9);rw[h3] at this
      exact this)
    clear Hcond n5 n6 m9
    gi_wp2_with fail
    refine⟨trivial,(CallsIn.inRound l0 (callsIn_wide.2 (uh HR))).mono ?_⟩;rintro e w9 ⟨rfl,rfl⟩
    gi_wp2_with fail
    refine⟨trivial,(CallsIn.inRound l0 (callsIn_wide.2 (zda V))).mono ?_⟩;rintro e V10 ⟨rfl,hb10,hlt10,hs10⟩;have hI10:=zb7 (uh HI) hb10;clear m1 m2 m3 m4 m5 m6 m7 m8 n1 n2 n3 n4;obtain⟨r1,r2,r3,r4,r5,r6,r7,r8,-⟩:=uh Hm _ _ _ _ _ _ hI10;obtain⟨hfr10,h10a,h10b⟩:=zqu hI10 (.pointer (some ⟨V.heap.size,0,none⟩)) (.bool false);obtain⟨hI11,hf11⟩:=zha (S':=V.heap.size) (em':=false) (uh HI) hb10 hs10 (λq hq=>by have hq:q=V.heap.size:=hq;omega) hfr10 h10a h10b;rw[(uh HxK).1,(uh HxK).2] at hI11 hf11;have hne10:w1.heap.size≠w1.heap.size+1:=by omega
    have hne11:w1.heap.size+1≠w1.heap.size:=by omega
    have hsz11:((V10.setCell ⟨w1.heap.size,0,none⟩ (.pointer (some ⟨V.heap.size,0,none⟩))).setCell ⟨w1.heap.size+1,0,none⟩ (.bool false)).heap.size=V10.heap.size:=by simp
    have had:=fw_add hI11 xv (by omega) 1;rw[hsz11] at had;have HAd:=zaa had;have Hf11:=zaa hf11;clear hI11 hf11 hfr10 h10a h10b hI10 hb10 hs10 hsz11 had
    gi_wp2_with fail
    refine⟨trivial,(CallsIn.inRound l0 (callsIn_wide.2 (uh HAd))).mono ?_⟩;rintro e V13 ⟨⟨c13,rfl⟩,hI13,hf13⟩;have HI13:=zaa hI13;have Hf13:=zaa (zuA (uh Hf11) hf13);clear hI13 hf13
    gi_wp2
    exact uh Hout _ _ _ _ _ _ (uh HI13) (uh Hf13) (λr=>by have:=uh HlW r;omega) (λhp=>⟨uh Hfl2 hp,uh Hbe2 hp⟩)
end Go.Proofs.YtieciibnajeibaaGreatDoor

/- The document's spelled. -/
import Derived.Test.YtagohbpbgjelaaaGreatDoorE2
import Derived.Test.YtagohbpbgjelaaaGreatDoorK1
import Derived.Laws.AppendOwnNone
import Derived.Test.YtagohbpbgjelaaaGreatDoorA5
import Derived.Test.YtagohbpbgjelaaaGreatDoorK2
namespace Go.Proofs.YtagohbpbgjelaaaGreatDoor
open Go.RowKit

set_option maxRecDepth 100000 in
theorem vints_app (a b:List Int):vints (a ++ b)=vints a ++ vints b:=by simp[vints]
end Go.Proofs.YtagohbpbgjelaaaGreatDoor

namespace Go.Proofs.YtagohbpbgjelaaaGreatDoor
open Go.RowKit

set_option maxRecDepth 100000 in
theorem bx_below {W W':World} {b:Nat} {o:Obj} (h:W.heap[b]? = some o) (hb:Below W.heap.size W W'):W'.heap[b]? = some o:=(hb.block _ (Array.getElem?_eq_some_iff.1 h).1).trans h
set_option maxRecDepth 100000 in
theorem one_new {W:World} {b t:Nat} {x:Value} (h:W.heap[b]? = some (.cells #[x] t)) {j:Nat} {u:Value} (hu:[x][j]? = some u):W.cell? (Addr.add ⟨b,0,none⟩ j)=some u:=by
 rcases j with _ | j
 · cases hu
   rw[addr_add0]
   unfold World.cell?
   rw[h]
   rfl
 · simp at hu
set_option maxRecDepth 100000 in
theorem own_frN {W W':World} {b e B s n:Nat} {v:Value} {xs:List Value} (h':W.ownsRow B e s v n xs) (hf:Fr (· = b) W W') (hb:b<B):W'.ownsRow B e s v n xs:=by
 refine⟨h'.1,?_⟩
 rcases h'.2 with h0 | ⟨g,cap,cur,hv,h1,h2,rest⟩
 · exact .inl h0
 · exact .inr ⟨g,cap,cur,hv,h1,(hf.2.1 g (Array.getElem?_eq_some_iff.1 h2).1 (fun e=>by have e:g=b:=e;omega)).trans h2,rest⟩
end Go.Proofs.YtagohbpbgjelaaaGreatDoor

import Derived.Test.YtieciibnajeibaaGreatDoorB1
import Derived.Laws.AppendOwnNone
set_option maxHeartbeats 8000000
set_option maxRecDepth 100000
namespace Go.Proofs.YtieciibnajeibaaGreatDoor
open Go.RowKit
theorem zjA(a b:List Int):zao (a ++ b)=zao a ++ zao b:=by simp[zao]
variable{W W':World}{b:Nat}
theorem zep{o:Obj}(h:W.heap[b]? = some o)(hb:Below W.heap.size W W'):W'.heap[b]? = some o:=(hb.block _ (zsO.1 h).1).trans h
theorem zeM{t:Nat}{x:Value}(h:W.heap[b]? = some (.cells #[x] t)){j:Nat}{u:Value}(hu:[x][j]? = some u):W.cell? (Addr.add ⟨b,0,none⟩ j)=some u:=by
 rcases j with _ | j
 ·cases hu
  rw[zhp];unfold World.cell?;rw[h];rfl
 ·simp at hu
theorem zvF{e B s n:Nat}{v:Value}{xs:List Value}(h':W.ownsRow B e s v n xs)(hf:Fr (· = b) W W')(hb:b<B):W'.ownsRow B e s v n xs:=by
 refine⟨h'.1,?_⟩;rcases h'.2 with h0 | ⟨g,cap,cur,hv,h1,h2,rest⟩
 ·exact .inl h0
 ·exact .inr ⟨g,cap,cur,hv,h1,(hf.2.1 g (zsO.1 h2).1 (λe=>by have e:g=b:=e;omega)).trans h2,rest⟩
end Go.Proofs.YtieciibnajeibaaGreatDoor

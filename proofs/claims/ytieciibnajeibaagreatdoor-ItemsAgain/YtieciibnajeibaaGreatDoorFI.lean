import Derived.Deep.RegionHeld3
import Derived.OrdersIn
import Derived.RangeFuncNested
import Derived.RangeFuncBound
import Derived.TacticsInMore
namespace Go.Proofs.YtieciibnajeibaaGreatDoor
open Go
def OnlyN(Q:Exit->Act->World->Prop):Exit->Act->World->Prop
 | .normal,a,w=>Q .normal a w
 | _,_,_=>False
variable{K K':Act->World->Prop}{P:Program}{Q:Exit->Act->World->Prop}{a:Act}{l n:Nat}{o:Oper}{ops:Array Oper}{w:World}
theorem OnlyN.mk(h:Q .normal a w):OnlyN Q .normal a w:=h
theorem zvJ(hd:∀ c,o.op≠.defer c)(hK:∀ a w,K a w->K' a w)(h:o.wp P a w K (OnlyN Q)):o.wpIn (Fence.wide.inRound l) n P a w K' Q:=by
 unfold Oper.wp at h;refine⟨λ_ _=>trivial,?_⟩;rw[show (Fence.wide.inRound l).round=some l from rfl,Oper.semAt_some l _ o hd];generalize (execOp a.eval o).run P w=r at *
 cases r with
 | ok x w' =>
   cases x with
   | value v=>exact hK _ _ h
   | skip=>exact hK _ _ h
   | defer d=>exact hK _ _ h
   | enter f args =>
     refine⟨λhq=>(by cases hq),CallsIn.inRound l (callsIn_wide.2 (Calls.mono h λe w'' he=>?_))⟩
     cases e with
     | returned v=>exact hK _ _ he
     | panicked c=>exact he.elim
     | outgrown=>obtain⟨_,_,h⟩:=he;exact h.elim
   | row row args =>
     refine⟨λhq=>(by cases hq),λc cs _=>?_⟩;obtain⟨v,w2,h1,h2⟩:=h c cs;exact⟨v,w2,hK _ _ h1,stepsIn_wide.2 h2⟩
   | round l f tmps assign body=>exact h.elim
   | _=>exact h.elim
 | halt x w' =>
   cases x with
   | panic v=>exact(h:False).elim
   | _=>exact h.elim
theorem op_in(hd:∀ (i:Nat) (o:Oper),ops[i]? = some o->∀ c,o.op≠.defer c){i:Nat}(hK:∀ a w,K a w->K' a w)(h:wpOp P ops (OnlyN Q) i K a w):wpOpIn (Fence.wide.inRound l) n P ops Q i K' a w:=by
 unfold wpOp at h;unfold wpOpIn
 cases hi:ops[i]? with
 | none=>rw[hi] at h;exact hK _ _ h
 | some o =>
   rw[hi] at h;simp only at h ⊢
   split
   ·rename_i hw;rw[if_pos hw] at h;rcases h with h | ⟨-,_,_,h⟩
    ·exact zvJ (hd i o hi) hK h
    ·exact h.elim
   ·rename_i hw;rw[if_neg hw] at h;exact⟨λ_ _=>trivial,hK _ _ h⟩
theorem zuW{l n:Nat}{P:Program}{md:Region.Mode}{ops:Array Oper}{Q:Exit->Act->World->Prop}(hd:∀ (i:Nat) (o:Oper),ops[i]? = some o->∀ c,o.op≠.defer c):∀ (fuel:Nat) (listed:Array Bool) (a:Act) (w:World),wpAny P md ops (OnlyN Q) fuel listed a w->wpAnyIn (Fence.wide.inRound l) n P md ops Q fuel listed a w
 | 0,_,_,_,h=>h
 | fuel+1,_,_,_,h=>⟨h.1,λi hi=>op_in hd (λa' w' h'=>zuW hd fuel _ a' w' h') (h.2 i hi)⟩
def zlk(o:Oper):Bool:=match o.op with | .defer _=>false | _=>true
theorem znN(h:zlk o=true)(c:_):o.op≠.defer c:=λe=>by unfold zlk at h;rw[e] at h;cases h
theorem zaM{id:Nat}{S:World->Prop}(hm:P.follows .mixedOrders=true)(hd:ops.all zlk=true)(hS:S w.drew)
 (h:S w.drew->wpAnyH P .any ops (OnlyN Q) S ops.size (Array.replicate ops.size false) a w.drew):(Code.region id ops true).wpIn (Fence.wide.inRound l) n P Q a w :=
 wpIn_region_any hm (zuW (λ_ o hi c=>znN ((Array.all_eq_true'.1 hd) o (Array.mem_of_getElem? hi)) c) _ _ _ _ (wpAny_of_held _ _ _ _ (h hS)))
end Go.Proofs.YtieciibnajeibaaGreatDoor

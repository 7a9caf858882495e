/- A region that draws its order, in a round of a range over a function, by the walk that keeps a condition. -/
import Derived.Deep.RegionHeld3
import Derived.OrdersIn
import Derived.RangeFuncNested
import Derived.RangeFuncBound
import Derived.RangeFuncCalls
import Derived.RangeFuncLeaves
import Derived.TacticsInMore
namespace Go.Proofs.YtagohbpbgjelaaaGreatDoor
open Go

def OnlyN (Q:Exit→Act→World→Prop):Exit→Act→World→Prop
 | .normal,a,w=>Q .normal a w
 | _,_,_=>False
theorem OnlyN.mk {Q:Exit→Act→World→Prop} {a:Act} {w:World} (h:Q .normal a w):OnlyN Q .normal a w:=h
theorem zqP {l n:Nat} {P:Program} {Q:Exit→Act→World→Prop} {o:Oper} {a:Act} {w:World} {K K':Act→World→Prop} (hd:∀ c,o.op≠.defer c) (hK:∀ a w,K a w→K' a w) (h:o.wp P a w K (OnlyN Q)):o.wpIn (Fence.wide.inRound l) n P a w K' Q:=by
 unfold Oper.wp at h
 refine⟨fun _ _=>trivial,?_⟩
 rw[show (Fence.wide.inRound l).round=some l from rfl,Oper.semAt_some l _ o hd]
 generalize (execOp a.eval o).run P w=r at *
 cases r with
 | ok x w' =>
   cases x with
   | value v=>exact hK _ _ h
   | skip=>exact hK _ _ h
   | defer d=>exact hK _ _ h
   | enter f args =>
     refine⟨fun hq=>(by cases hq),CallsIn.inRound l (callsIn_wide.2 (Calls.mono h fun e w'' he=>?_))⟩
     cases e with
     | returned v=>exact hK _ _ he
     | panicked c=>exact he.elim
     | outgrown=>obtain⟨_,_,h⟩:=he;exact h.elim
   | row row args =>
     refine⟨fun hq=>(by cases hq),fun c cs _=>?_⟩
     obtain⟨v,w2,h1,h2⟩:=h c cs
     exact⟨v,w2,hK _ _ h1,stepsIn_wide.2 h2⟩
   | round l f tmps assign body=>exact h.elim
   | _=>exact h.elim
 | halt x w' =>
   cases x with
   | panic v=>exact(h:False).elim
   | _=>exact h.elim
theorem op_in {l n:Nat} {P:Program} {ops:Array Oper} {Q:Exit→Act→World→Prop} (hd:∀ (i:Nat) (o:Oper),ops[i]? = some o→∀ c,o.op≠.defer c) {i:Nat} {a:Act} {w:World} {K K':Act→World→Prop} (hK:∀ a w,K a w→K' a w) (h:wpOp P ops (OnlyN Q) i K a w):wpOpIn (Fence.wide.inRound l) n P ops Q i K' a w:=by
 unfold wpOp at h
 unfold wpOpIn
 cases hi:ops[i]? with
 | none=>rw[hi] at h;exact hK _ _ h
 | some o =>
   rw[hi] at h
   simp only at h ⊢
   split
   ·rename_i hw
    rw[if_pos hw] at h
    rcases h with h | ⟨-,_,_,h⟩
    ·exact zqP (hd i o hi) hK h
    ·exact h.elim
   ·rename_i hw
    rw[if_neg hw] at h
    exact⟨fun _ _=>trivial,hK _ _ h⟩
theorem zqj {l n:Nat} {P:Program} {md:Region.Mode} {ops:Array Oper} {Q:Exit→Act→World→Prop} (hd:∀ (i:Nat) (o:Oper),ops[i]? = some o→∀ c,o.op≠.defer c):∀ (fuel:Nat) (listed:Array Bool) (a:Act) (w:World),wpAny P md ops (OnlyN Q) fuel listed a w→wpAnyIn (Fence.wide.inRound l) n P md ops Q fuel listed a w
 | 0,_,_,_,h=>h
 | fuel+1,_,_,_,h=>⟨h.1,fun i hi=>op_in hd (fun a' w' h'=>zqj hd fuel _ a' w' h') (h.2 i hi)⟩
def zjy (o:Oper):Bool:=match o.op with | .defer _=>false | _=>true
theorem zll {o:Oper} (h:zjy o=true) (c:_):o.op≠.defer c:=fun e=>by unfold zjy at h;rw[e] at h;cases h
theorem zay {l n:Nat} {P:Program} {id:Nat} {ops:Array Oper} {Q:Exit→Act→World→Prop} {S:World→Prop} {a:Act} {w:World} (hm:P.follows .mixedOrders=true) (hd:ops.all zjy=true) (hS:S w.drew)
 (h:S w.drew→wpAnyH P .any ops (OnlyN Q) S ops.size (Array.replicate ops.size false) a w.drew):(Code.region id ops true).wpIn (Fence.wide.inRound l) n P Q a w :=
 wpIn_region_any hm (zqj (fun _ o hi c=>zll ((Array.all_eq_true'.1 hd) o (Array.mem_of_getElem? hi)) c) _ _ _ _ (wpAny_of_held _ _ _ _ (h hS)))
end Go.Proofs.YtagohbpbgjelaaaGreatDoor

import Derived.Test.YtieciibnajeibaaGreatDoorWkS4
import Derived.Lib.Overlaps
import Derived.Lib.AppendZerosOnto
set_option maxHeartbeats 8000000
set_option maxRecDepth 100000
namespace Go.Proofs.YtieciibnajeibaaGreatDoor.Wk
open Go.RowKit Go.Maps
def over(L:List Value)(off:Nat)(cs:List Value):List Value:=L.take off ++ (cs ++ L.drop (off+cs.length))
theorem over_length(L:List Value)(off:Nat)(cs:List Value)(h:off+cs.length<=L.length):(over L off cs).length=L.length:=by simp[over];omega
variable{F L v:List Value}{K:Act->World->Prop}{P:Program}{Q:Exit->Act->World->Prop}{a:Act}{m p q:Nat}{o:Oper}{ops:Array Oper}{rest:List Oper}{v':Value}{w':World}
theorem run_copy_rows(w:World)(dT sT ty elem:TypeId)(sz:Nat)(g o dLen dCap:Nat)(a:Addr)(sLen sCap:Nat)(cur:List Value)(t:TypeId)(cs:List Value)
 (hu:P.underlying dT=some (.slice elem)) (hs:(P.info? elem).map (·.size)=some sz)
 (hg:w.heap[g]? = some (.cells cur.toArray t (0,0))) (hn:cs.length=Nat.min sLen dLen * sz)
 (hsrc:∀ j v,cs[j]? = some v->w.cell? (a.add j)=some v) (hfit:o+cs.length<=cur.length) (h1:∀ v ∈ cs,v.oneCell'=true) :
 (Builtin.copy_ #[dT,sT] ty #[.slice (some ⟨g,o,none⟩) dLen dCap,.slice (some a) sLen sCap]).run P w =
  .ok (goInt (Nat.min sLen dLen)) (w.setRow g (over cur o cs).toArray):=by
 have hl:=run_loadCells_list (P:=P) w a cs hsrc;have hst:=run_storeCells_at P g o t cs 0 cur.toArray w hg (by simpa using hfit) h1
 cases hq:P.info? elem with
 | none=>simp[hq] at hs
 | some i =>
   have hi:i.size=sz:=by simpa [hq] using hs
   simp[Builtin.copy_,run_underlying hu,Builtin.lenOf,Builtin.firstCells,sizeOf,typeInfo,hq,hi,<- hn,hl,hst,over]
theorem zeX(w:World)(d s:Operand)(t t':TypeId)
 (ho:o.op=.call { callee:=.builtin .copy,args:=#[d,s],argTypes:=#[t,t'] }) (v u:Value) (hd:a.eval d=v) (hs:a.eval s=u)
 (hr:(Builtin.copy_ #[t,t'] o.type #[v,u]).run P w=.ok v' w') (h:K (a.put o.dst v') w'):o.wp P a w K Q:=by
 unfold Oper.wp execOp;simp only[ho,resolve,invoke,builtin,Sem.run_bind,Sem.run_pure,Result.andThen_ok,List.map_toArray,List.map_cons,List.map_nil,hd,hs,hr];exact h
theorem wpList_copy_known(w:World)(hgd:o.guard=none)(d s:Operand)(t t':TypeId)
 (ho:o.op=.call { callee:=.builtin .copy,args:=#[d,s],argTypes:=#[t,t'] }) (v u:Value) (hd:a.eval d=v) (hs:a.eval s=u)
 (hr:(Builtin.copy_ #[t,t'] o.type #[v,u]).run P w=.ok v' w') (h:wpList P ops Q rest (a.put o.dst v') w'):wpList P ops Q (o::rest) a w :=
 wpList_plain hgd λ_ hK=>zeX w d s t t' ho v u hd hs hr (hK _ _ h)
theorem step_copy_known{w:World}{E:Prop}
 (hg:o.guard=none) (d x:Operand) (t t':TypeId) (ho:o.op=.call { callee:=.builtin .copy,args:=#[d,x],argTypes:=#[t,t'] })
 (v u:Value) (hd:a.eval d=v) (hx:a.eval x=u) (hr:(Builtin.copy_ #[t,t'] o.type #[v,u]).run P w=.ok v' w') (hK:K (a.put o.dst v') w') :
 if Region.wanted o (yielded ops a.tmps)=true then Oper.wp P o a w K Q else E:=by
 have hw:Region.wanted o (yielded ops a.tmps)=true:=by simp[Region.wanted,hg]
 rw[if_pos hw];exact zeX w d x t t' ho v u hd hx hr hK
theorem zeA(w:World)(hgd:o.guard=none)(d s:Operand)(t t':TypeId)
 (ho:o.op=.call { callee:=.builtin .append,args:=#[d,s],argTypes:=#[t,t'] }) (v u:Value) (hd:a.eval d=v) (hs:a.eval s=u)
 (hr:(Builtin.append_ #[t,t'] o.type #[v,u]).run P w=.ok v' w') (h:wpList P ops Q rest (a.put o.dst v') w'):wpList P ops Q (o::rest) a w :=
 wpList_plain hgd λ_ hK=>by
  unfold Oper.wp execOp;simp only[ho,resolve,invoke,builtin,Sem.run_bind,Sem.run_pure,Result.andThen_ok,List.map_toArray,List.map_cons,List.map_nil,hd,hs,hr];exact hK _ _ h
theorem zpy(hF:L.take m=F)(hp:p<=m)(hv:v.length=q)(hL:m+q<=L.length)(hm:m<=L.length) :
 (over (over L (p+q) (F.drop p)) p v).take (m+q)=F.take p ++ (v ++ F.drop p):=by
 have hFl:F.length=m:=by rw[<- hF,List.length_take];omega
 have e0:L.take p=F.take p:=by rw[<- hF,List.take_take,Nat.min_eq_left hp]
 unfold over;have e1:(L.take (p+q) ++ (F.drop p ++ L.drop (p+q+(F.drop p).length))).take p=F.take p:=by
  rw[List.take_append_of_le_length (by simp;omega),List.take_take,Nat.min_eq_left (by omega),e0]
 have e2:(L.take (p+q) ++ (F.drop p ++ L.drop (p+q+(F.drop p).length))).drop (p+v.length)=F.drop p ++ L.drop (p+q+(F.drop p).length):=by
  rw[hv,List.drop_append_of_le_length (by simp;omega),List.drop_of_length_le (by simp;omega)];simp
 rw[e1,e2,<- List.append_assoc,<- List.append_assoc,<- List.append_assoc,List.take_append_of_le_length (by simp;omega),List.take_of_length_le (by simp;omega)]
theorem zsu(h0:L.take p=F.take p)(hFl:F.length=m)(hp:p<=m)(hv:v.length=q)(hL:m+q<=L.length) :
 (over (over L p v) (p+q) (F.drop p)).take (m+q)=F.take p ++ (v ++ F.drop p):=by
 unfold over;have e1:(L.take p ++ (v ++ L.drop (p+v.length))).take (p+q)=F.take p ++ v:=by
  rw[<- List.append_assoc,List.take_append_of_le_length (by simp;omega),List.take_of_length_le (by simp;omega),h0]
 rw[e1,<- List.append_assoc,<- List.append_assoc,List.take_append_of_le_length (by simp;omega),List.take_of_length_le (by simp;omega),List.append_assoc]
theorem zn6(bl:List Blk):∀ k,(zaF bl).take (k * 2)=zaF (bl.take k):=by
 induction bl with
 | nil=>intro k;simp[zaF]
 | cons b l ih =>
   intro k
   cases k with
   | zero=>rfl
   | succ k=>rw[show (k+1) * 2=k * 2+1+1 by omega,zbJ,List.take_succ_cons,List.take_succ_cons,ih,List.take_succ_cons,zbJ]
theorem zn7(bl:List Blk):∀ k,(zaF bl).drop (k * 2)=zaF (bl.drop k):=by
 induction bl with
 | nil=>intro k;simp[zaF]
 | cons b l ih =>
   intro k
   cases k with
   | zero=>rfl
   | succ k=>rw[show (k+1) * 2=k * 2+1+1 by omega,zbJ,List.drop_succ_cons,List.drop_succ_cons,ih,List.drop_succ_cons]
end Go.Proofs.YtieciibnajeibaaGreatDoor.Wk

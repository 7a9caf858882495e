import Derived.Test.YtieciibnajeibaaGreatDoorGI
set_option maxHeartbeats 8000000
set_option maxRecDepth 100000
namespace Go.Proofs.YtieciibnajeibaaGreatDoor
open Go.RowKit
theorem zgA(a b:It)(w:World):Calls Tryz.prog 101 #[itV a,itV b] w λe w'=>e=.returned (.bool (decide (ltI a b)))/\Below w.heap.size w w':=by
 obtain⟨p,d,k⟩:=a;obtain⟨p',d',k'⟩:=b;show Calls Tryz.prog 101 #[.agg #[.int .i64 p,.int .i64 d,.int .i64 k],.agg #[.int .i64 p',.int .i64 d',.int .i64 k']] w λe w'=>e=.returned (.bool (decide (ltI (p,d,k) (p',d',k'))))/\Below w.heap.size w w';have Hb:Hid (Below w.heap.size w ((w.alloc (.cells #[.int .i64 p,.int .i64 d,.int .i64 k] 57)).alloc (.cells #[.int .i64 p',.int .i64 d',.int .i64 k'] 57))):=zaa (((zsY _ _).alloc (zsG _) _).alloc (by simp) _);by_cases h1:p=p'
 ·subst h1;by_cases h2:d=d'
  ·subst h2;rw[show decide (ltI (p,d,k) (p,d,k'))=decide (k<k') from decide_eq_decide.2 (by unfold ltI;simp)];go_enter Tryz.func101,Tryz.ntmps101;go_wp2;go_ret;exact⟨rfl,uh Hb⟩
  ·rw[show decide (ltI (p,d,k) (p,d',k'))=decide (d<d') from decide_eq_decide.2 (by unfold ltI;simp[h2])];go_enter Tryz.func101,Tryz.ntmps101;go_wp2;go_ret;exact⟨rfl,uh Hb⟩
 ·rw[show decide (ltI (p,d,k) (p',d',k'))=decide (p<p') from decide_eq_decide.2 (by unfold ltI;simp[h1])];go_enter Tryz.func101,Tryz.ntmps101;go_wp2;go_ret;exact⟨rfl,uh Hb⟩
theorem zvm(y x:It)(w:World):(binOp .eql 57 (.agg #[.int .i64 y.1,.int .i64 y.2.1,.int .i64 y.2.2]) (.agg #[.int .i64 x.1,.int .i64 x.2.1,.int .i64 x.2.2])).run Tryz.prog w=.ok (.bool (decide (y=x))) w:=by
 rw[run_eql_struct,run_equalIn_agg w 9999 57 _ _ (by kernel_rfl) (by kernel_rfl)];unfold Program.fieldsOf;rw[Tryz.underlying57];simp[Op.eqFields,part,go_sem,Tryz.underlying3];obtain⟨y0,y1,y2⟩:=y;obtain⟨z0,z1,z2⟩:=x;simp only[Prod.mk.injEq];by_cases h0:y0=z0
 ·by_cases h1:y1=z1
  ·by_cases h2:y2=z2
   ·simp[h0,h1,h2]
   ·simp[h0,h1,h2]
  ·simp[h0,h1]
 ·simp[h0]
end Go.Proofs.YtieciibnajeibaaGreatDoor

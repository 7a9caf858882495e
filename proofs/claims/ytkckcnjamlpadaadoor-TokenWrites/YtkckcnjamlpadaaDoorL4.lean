/- The law TokenWrites, walked. -/
import Derived.Test.YtkckcnjamlpadaaDoorD5
import Derived.Test.YtkckcnjamlpadaaDoorL7
import Derived.Deep.RegionHeld3
namespace Go.Proofs.YtkckcnjamlpadaaDoor
open Go.RowKit Go.Maps

set_option maxHeartbeats 8000000 in
set_option maxRecDepth 100000 in
theorem writes_walk (a : Option Addr) (ca : Nat) (ns : List (List UInt8)) (src : ByteArray) (hsrc : src.size ≤ 9223372036854775807) (b : Option Addr) (cb : Nat) (l : List T3) (w : World) (hrow : SRow w a ns) (htok : TRow w b l) (hE : Env w) :
    Calls Tryd.prog 4 #[.agg #[.slice a ns.length ca, .string src, .slice b l.length cb]] w fun e w' => backPost w e w' := by
  have HLB := hide (LB.new (ca := ca) (src := src) (cb := cb) hrow htok hE)
  clear hrow htok hE
  have b0 := cell_block (unhide HLB).box 0 _ rfl
  have b1 := cell_block (unhide HLB).box 1 _ rfl
  have b2 := cell_block (unhide HLB).box 2 _ rfl
  have HL := hide (lines_any a ca ns src hsrc b cb l _ (unhide HLB).row (unhide HLB).tok (unhide HLB).env)
  have HR := hide (fun W (h : LB w a ca ns src b cb l W) => rLines_any a ca ns src hsrc b cb l W h.row h.tok h.env)
  have HA := hide (fun W (h : LB w a ca ns src b cb l W) => alive_any W h.env)
  generalize linesT ns src l = V at *
  obtain ⟨v1, v2⟩ := V
  simp only at HL HR
  generalize bs v1 = X at *
  go_enter Tryd.func4, Tryd.ntmps4
  go_wp2_with fail
  refine (unhide HL).mono ?_
  rintro e w1 ⟨rfl, hb1⟩
  have H1 := hide ((unhide HLB).below hb1)
  clear hb1 HLB b0 b1 b2 HL
  have b0 := cell_block (unhide H1).box 0 _ rfl
  have b1 := cell_block (unhide H1).box 1 _ rfl
  have b2 := cell_block (unhide H1).box 2 _ rfl
  have HR1 := hide (unhide HR _ (unhide H1))
  go_wp2_with fail
  refine (unhide HR1).mono ?_
  rintro e w3 ⟨rfl, hb3⟩
  have HB := hide ((unhide H1).below hb3)
  clear hb3 H1 b0 b1 b2 HR HR1
  go_wp2_with fail
  refine (unhide HA _ (unhide HB)).mono ?_
  rintro e w5 ⟨rfl, hb5⟩
  have HB5 := hide ((unhide HB).below hb5)
  clear hb5 HB
  go_wp2
  go_ret
  exact ⟨rfl, (unhide HB5).bel⟩
end Go.Proofs.YtkckcnjamlpadaaDoor

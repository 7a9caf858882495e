/- The law RunesAlgebra, walked out of its ways. -/
import Derived.Test.YtkbhdojgdgiggabDoorB0
import Derived.Test.YtkbhdojgdgiggabDoorB1
import Derived.Test.YtkbhdojgdgiggabDoorB2
import Derived.Test.YtkbhdojgdgiggabDoorB3
import Derived.Test.YtkbhdojgdgiggabDoorB4
import Derived.Test.YtkbhdojgdgiggabDoorB5
import Derived.Test.YtkbhdojgdgiggabDoorB6
import Derived.Test.YtkbhdojgdgiggabDoorB7
import Derived.Test.YtkbhdojgdgiggabDoorB8
namespace Go.Proofs.YtkbhdojgdgiggabDoor
open Go.RowKit

theorem runesAlgebra_walk (a a2 : Option Addr) (cap cap2 : Nat) (n1 : a = none → cap = 0) (n2 : a2 = none → cap2 = 0) (l m : List Rng) (hl : l.length ≤ 281474976710656) (hm : m.length ≤ 281474976710656) (r : Int) (w : World) (hrow : RowAt w a l) (hrow2 : RowAt w a2 m) :
    Calls Tryd.prog 3 #[.slice a l.length cap, .slice a2 m.length cap2, .int .i32 r] w fun e w' => e = .returned (.bool true) ∧ Below w.heap.size w w' := by
  by_cases h1 : checkV l = 0
  · by_cases h2 : checkV m = 0
    · by_cases hr : r < 0
      · exact alg_out1 a a2 cap cap2 n1 n2 l m hl hm r w hrow hrow2 h1 h2 hr
      · by_cases hr3 : r > 1114111
        · exact alg_out2 a a2 cap cap2 n1 n2 l m hl hm r w hrow hrow2 h1 h2 hr hr3
        · have hin : 0 ≤ r ∧ r ≤ 1114111 := by omega
          by_cases hu : uniC [l, m] = 0
          · by_cases hmm : meetC [l, m] = 0
            · by_cases hd : minusC l m = 0
              · by_cases hn : notC l = 0
                · cases hi : hasB l r
                  · cases hj : hasB m r
                    · exact alg_in_yyyynn a a2 cap cap2 n1 n2 l m hl hm r w hrow hrow2 h1 h2 hin hu hmm hd hn hi hj
                    · exact alg_in_yyyyny a a2 cap cap2 n1 n2 l m hl hm r w hrow hrow2 h1 h2 hin hu hmm hd hn hi hj
                  · cases hj : hasB m r
                    · exact alg_in_yyyyyn a a2 cap cap2 n1 n2 l m hl hm r w hrow hrow2 h1 h2 hin hu hmm hd hn hi hj
                    · exact alg_in_yyyyyy a a2 cap cap2 n1 n2 l m hl hm r w hrow hrow2 h1 h2 hin hu hmm hd hn hi hj
                · cases hi : hasB l r
                  · cases hj : hasB m r
                    · exact alg_in_yyynnn a a2 cap cap2 n1 n2 l m hl hm r w hrow hrow2 h1 h2 hin hu hmm hd hn hi hj
                    · exact alg_in_yyynny a a2 cap cap2 n1 n2 l m hl hm r w hrow hrow2 h1 h2 hin hu hmm hd hn hi hj
                  · cases hj : hasB m r
                    · exact alg_in_yyynyn a a2 cap cap2 n1 n2 l m hl hm r w hrow hrow2 h1 h2 hin hu hmm hd hn hi hj
                    · exact alg_in_yyynyy a a2 cap cap2 n1 n2 l m hl hm r w hrow hrow2 h1 h2 hin hu hmm hd hn hi hj
              · by_cases hn : notC l = 0
                · cases hi : hasB l r
                  · cases hj : hasB m r
                    · exact alg_in_yynynn a a2 cap cap2 n1 n2 l m hl hm r w hrow hrow2 h1 h2 hin hu hmm hd hn hi hj
                    · exact alg_in_yynyny a a2 cap cap2 n1 n2 l m hl hm r w hrow hrow2 h1 h2 hin hu hmm hd hn hi hj
                  · cases hj : hasB m r
                    · exact alg_in_yynyyn a a2 cap cap2 n1 n2 l m hl hm r w hrow hrow2 h1 h2 hin hu hmm hd hn hi hj
                    · exact alg_in_yynyyy a a2 cap cap2 n1 n2 l m hl hm r w hrow hrow2 h1 h2 hin hu hmm hd hn hi hj
                · cases hi : hasB l r
                  · cases hj : hasB m r
                    · exact alg_in_yynnnn a a2 cap cap2 n1 n2 l m hl hm r w hrow hrow2 h1 h2 hin hu hmm hd hn hi hj
                    · exact alg_in_yynnny a a2 cap cap2 n1 n2 l m hl hm r w hrow hrow2 h1 h2 hin hu hmm hd hn hi hj
                  · cases hj : hasB m r
                    · exact alg_in_yynnyn a a2 cap cap2 n1 n2 l m hl hm r w hrow hrow2 h1 h2 hin hu hmm hd hn hi hj
                    · exact alg_in_yynnyy a a2 cap cap2 n1 n2 l m hl hm r w hrow hrow2 h1 h2 hin hu hmm hd hn hi hj
            · by_cases hd : minusC l m = 0
              · by_cases hn : notC l = 0
                · cases hi : hasB l r
                  · cases hj : hasB m r
                    · exact alg_in_ynyynn a a2 cap cap2 n1 n2 l m hl hm r w hrow hrow2 h1 h2 hin hu hmm hd hn hi hj
                    · exact alg_in_ynyyny a a2 cap cap2 n1 n2 l m hl hm r w hrow hrow2 h1 h2 hin hu hmm hd hn hi hj
                  · cases hj : hasB m r
                    · exact alg_in_ynyyyn a a2 cap cap2 n1 n2 l m hl hm r w hrow hrow2 h1 h2 hin hu hmm hd hn hi hj
                    · exact alg_in_ynyyyy a a2 cap cap2 n1 n2 l m hl hm r w hrow hrow2 h1 h2 hin hu hmm hd hn hi hj
                · cases hi : hasB l r
                  · cases hj : hasB m r
                    · exact alg_in_ynynnn a a2 cap cap2 n1 n2 l m hl hm r w hrow hrow2 h1 h2 hin hu hmm hd hn hi hj
                    · exact alg_in_ynynny a a2 cap cap2 n1 n2 l m hl hm r w hrow hrow2 h1 h2 hin hu hmm hd hn hi hj
                  · cases hj : hasB m r
                    · exact alg_in_ynynyn a a2 cap cap2 n1 n2 l m hl hm r w hrow hrow2 h1 h2 hin hu hmm hd hn hi hj
                    · exact alg_in_ynynyy a a2 cap cap2 n1 n2 l m hl hm r w hrow hrow2 h1 h2 hin hu hmm hd hn hi hj
              · by_cases hn : notC l = 0
                · cases hi : hasB l r
                  · cases hj : hasB m r
                    · exact alg_in_ynnynn a a2 cap cap2 n1 n2 l m hl hm r w hrow hrow2 h1 h2 hin hu hmm hd hn hi hj
                    · exact alg_in_ynnyny a a2 cap cap2 n1 n2 l m hl hm r w hrow hrow2 h1 h2 hin hu hmm hd hn hi hj
                  · cases hj : hasB m r
                    · exact alg_in_ynnyyn a a2 cap cap2 n1 n2 l m hl hm r w hrow hrow2 h1 h2 hin hu hmm hd hn hi hj
                    · exact alg_in_ynnyyy a a2 cap cap2 n1 n2 l m hl hm r w hrow hrow2 h1 h2 hin hu hmm hd hn hi hj
                · cases hi : hasB l r
                  · cases hj : hasB m r
                    · exact alg_in_ynnnnn a a2 cap cap2 n1 n2 l m hl hm r w hrow hrow2 h1 h2 hin hu hmm hd hn hi hj
                    · exact alg_in_ynnnny a a2 cap cap2 n1 n2 l m hl hm r w hrow hrow2 h1 h2 hin hu hmm hd hn hi hj
                  · cases hj : hasB m r
                    · exact alg_in_ynnnyn a a2 cap cap2 n1 n2 l m hl hm r w hrow hrow2 h1 h2 hin hu hmm hd hn hi hj
                    · exact alg_in_ynnnyy a a2 cap cap2 n1 n2 l m hl hm r w hrow hrow2 h1 h2 hin hu hmm hd hn hi hj
          · by_cases hmm : meetC [l, m] = 0
            · by_cases hd : minusC l m = 0
              · by_cases hn : notC l = 0
                · cases hi : hasB l r
                  · cases hj : hasB m r
                    · exact alg_in_nyyynn a a2 cap cap2 n1 n2 l m hl hm r w hrow hrow2 h1 h2 hin hu hmm hd hn hi hj
                    · exact alg_in_nyyyny a a2 cap cap2 n1 n2 l m hl hm r w hrow hrow2 h1 h2 hin hu hmm hd hn hi hj
                  · cases hj : hasB m r
                    · exact alg_in_nyyyyn a a2 cap cap2 n1 n2 l m hl hm r w hrow hrow2 h1 h2 hin hu hmm hd hn hi hj
                    · exact alg_in_nyyyyy a a2 cap cap2 n1 n2 l m hl hm r w hrow hrow2 h1 h2 hin hu hmm hd hn hi hj
                · cases hi : hasB l r
                  · cases hj : hasB m r
                    · exact alg_in_nyynnn a a2 cap cap2 n1 n2 l m hl hm r w hrow hrow2 h1 h2 hin hu hmm hd hn hi hj
                    · exact alg_in_nyynny a a2 cap cap2 n1 n2 l m hl hm r w hrow hrow2 h1 h2 hin hu hmm hd hn hi hj
                  · cases hj : hasB m r
                    · exact alg_in_nyynyn a a2 cap cap2 n1 n2 l m hl hm r w hrow hrow2 h1 h2 hin hu hmm hd hn hi hj
                    · exact alg_in_nyynyy a a2 cap cap2 n1 n2 l m hl hm r w hrow hrow2 h1 h2 hin hu hmm hd hn hi hj
              · by_cases hn : notC l = 0
                · cases hi : hasB l r
                  · cases hj : hasB m r
                    · exact alg_in_nynynn a a2 cap cap2 n1 n2 l m hl hm r w hrow hrow2 h1 h2 hin hu hmm hd hn hi hj
                    · exact alg_in_nynyny a a2 cap cap2 n1 n2 l m hl hm r w hrow hrow2 h1 h2 hin hu hmm hd hn hi hj
                  · cases hj : hasB m r
                    · exact alg_in_nynyyn a a2 cap cap2 n1 n2 l m hl hm r w hrow hrow2 h1 h2 hin hu hmm hd hn hi hj
                    · exact alg_in_nynyyy a a2 cap cap2 n1 n2 l m hl hm r w hrow hrow2 h1 h2 hin hu hmm hd hn hi hj
                · cases hi : hasB l r
                  · cases hj : hasB m r
                    · exact alg_in_nynnnn a a2 cap cap2 n1 n2 l m hl hm r w hrow hrow2 h1 h2 hin hu hmm hd hn hi hj
                    · exact alg_in_nynnny a a2 cap cap2 n1 n2 l m hl hm r w hrow hrow2 h1 h2 hin hu hmm hd hn hi hj
                  · cases hj : hasB m r
                    · exact alg_in_nynnyn a a2 cap cap2 n1 n2 l m hl hm r w hrow hrow2 h1 h2 hin hu hmm hd hn hi hj
                    · exact alg_in_nynnyy a a2 cap cap2 n1 n2 l m hl hm r w hrow hrow2 h1 h2 hin hu hmm hd hn hi hj
            · by_cases hd : minusC l m = 0
              · by_cases hn : notC l = 0
                · cases hi : hasB l r
                  · cases hj : hasB m r
                    · exact alg_in_nnyynn a a2 cap cap2 n1 n2 l m hl hm r w hrow hrow2 h1 h2 hin hu hmm hd hn hi hj
                    · exact alg_in_nnyyny a a2 cap cap2 n1 n2 l m hl hm r w hrow hrow2 h1 h2 hin hu hmm hd hn hi hj
                  · cases hj : hasB m r
                    · exact alg_in_nnyyyn a a2 cap cap2 n1 n2 l m hl hm r w hrow hrow2 h1 h2 hin hu hmm hd hn hi hj
                    · exact alg_in_nnyyyy a a2 cap cap2 n1 n2 l m hl hm r w hrow hrow2 h1 h2 hin hu hmm hd hn hi hj
                · cases hi : hasB l r
                  · cases hj : hasB m r
                    · exact alg_in_nnynnn a a2 cap cap2 n1 n2 l m hl hm r w hrow hrow2 h1 h2 hin hu hmm hd hn hi hj
                    · exact alg_in_nnynny a a2 cap cap2 n1 n2 l m hl hm r w hrow hrow2 h1 h2 hin hu hmm hd hn hi hj
                  · cases hj : hasB m r
                    · exact alg_in_nnynyn a a2 cap cap2 n1 n2 l m hl hm r w hrow hrow2 h1 h2 hin hu hmm hd hn hi hj
                    · exact alg_in_nnynyy a a2 cap cap2 n1 n2 l m hl hm r w hrow hrow2 h1 h2 hin hu hmm hd hn hi hj
              · by_cases hn : notC l = 0
                · cases hi : hasB l r
                  · cases hj : hasB m r
                    · exact alg_in_nnnynn a a2 cap cap2 n1 n2 l m hl hm r w hrow hrow2 h1 h2 hin hu hmm hd hn hi hj
                    · exact alg_in_nnnyny a a2 cap cap2 n1 n2 l m hl hm r w hrow hrow2 h1 h2 hin hu hmm hd hn hi hj
                  · cases hj : hasB m r
                    · exact alg_in_nnnyyn a a2 cap cap2 n1 n2 l m hl hm r w hrow hrow2 h1 h2 hin hu hmm hd hn hi hj
                    · exact alg_in_nnnyyy a a2 cap cap2 n1 n2 l m hl hm r w hrow hrow2 h1 h2 hin hu hmm hd hn hi hj
                · cases hi : hasB l r
                  · cases hj : hasB m r
                    · exact alg_in_nnnnnn a a2 cap cap2 n1 n2 l m hl hm r w hrow hrow2 h1 h2 hin hu hmm hd hn hi hj
                    · exact alg_in_nnnnny a a2 cap cap2 n1 n2 l m hl hm r w hrow hrow2 h1 h2 hin hu hmm hd hn hi hj
                  · cases hj : hasB m r
                    · exact alg_in_nnnnyn a a2 cap cap2 n1 n2 l m hl hm r w hrow hrow2 h1 h2 hin hu hmm hd hn hi hj
                    · exact alg_in_nnnnyy a a2 cap cap2 n1 n2 l m hl hm r w hrow hrow2 h1 h2 hin hu hmm hd hn hi hj
    · exact alg_bad2 a a2 cap cap2 n1 n2 l m hl hm r w hrow hrow2 h1 h2
  · exact alg_bad1 a a2 cap cap2 n1 n2 l m hl hm r w hrow hrow2 h1
end Go.Proofs.YtkbhdojgdgiggabDoor

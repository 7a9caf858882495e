/- The law WorkOrder, walked. -/
import Derived.Test.YtdpphjedjhjdgaaO1
namespace Go.Proofs.Ytdpphjedjhjdgaa
open Go.RowKit Go.Maps

set_option maxHeartbeats 8000000 in
set_option maxRecDepth 100000 in
theorem order_walk (a : Option Addr) (c : Nat) (l : List Job) (hl : l.length ≤ maxLen) (hfit : ∀ x ∈ l, wfJ x) (w : World) (hrow : JRow w a l) :
    Calls Try.prog 4 #[.slice a l.length c] w fun e w' => e = .returned (.bool true) ∧ Below w.heap.size w w' := by
  have HA := hide (alive_any (w.alloc (.cells #[.slice none 0 0, .map none] 74)))
  have HN := hide (fun W => new_none W)
  have hb0 : Below w.heap.size w (w.alloc (.cells #[.slice none 0 0, .map none] 74)) := (Below.refl _ _).alloc (Nat.le_refl _) _
  have Hb0 := hide hb0
  clear hb0
  go_enter Try.func4, Try.ntmps4
  go_wp2_with (first | (go_at_call 7; go_in) | (go_at_call 8; refine (unhide HA).mono ?_; rintro e w1 ⟨rfl, hb1⟩) | (go_at_call 14; refine (unhide HN w1).mono ?_; rintro e w2 ⟨rfl, hb2, bl0, O0, hok0, hO0, hh0⟩))
  have hI0 : ∃ Ol Os ts bl, OInv w w2 w.heap.size w1.heap.size Ol Os ts bl := by
    have hbw1 : Below w.heap.size w w1 := (unhide Hb0).trans (hb1.mono (by simp))
    have hs1 := hb1.size
    simp only [World.size_alloc] at hs1
    refine ⟨_, O0, [], bl0, hbw1.trans (hb2.mono hbw1.size), lst_below (lst_below (lst_new w) hb1) hb2, fun i h1 h2 => by simp at h2, hok0, fun m => by rw [hh0]; rfl, fun k hk => by omega, fun k hk => by have := hO0 k hk; omega, fun k hk hs => by have := hO0 k hs; omega⟩
  clear HA HN Hb0 hb1 hb2 hok0 hO0 hh0
  generalize w1.heap.size = sB at *
  go_loopw [36] (fun x wr => ∃ k : Nat, x = .int .i64 k ∧ k ≤ l.length ∧ ∃ Ol Os ts bl, OInv w wr w.heap.size sB Ol Os ts bl) (fun x _ => l.length - (intOf x).toNat)
  case atStart => exact ⟨0, rfl, Nat.zero_le _, hI0⟩
  case round =>
    obtain ⟨k, rfl, hk, Ol, Os, ts, bl, hI⟩ := hrel
    clear hI0
    by_cases hlt : k < l.length
    · have hlt' : (k : Int) < l.length := by omega
      have hk9 : (k : Int) < 9223372036854775807 := by unfold maxLen at hl; omega
      have hrow1 := jrow_below hrow hI.bel (Nat.le_refl _)
      rcases id hrow1 with h0 | ⟨g, off, rfl, hgl, hc⟩
      · subst h0; simp at hlt
      obtain ⟨ck0, ck1, ck2⟩ := hc k hlt
      have hs : wfJ (l.getD k job0) := hfit _ (by rw [List.getD_eq_getElem?_getD, List.getElem?_eq_getElem hlt]; exact List.getElem_mem _)
      generalize l.getD k job0 = s at *
      obtain ⟨pp, n, wt⟩ := s
      simp only [wfJ] at ck0 ck1 ck2 hs
      have hI1 : OInv w (wr.alloc (.cells #[.bool pp, .int .i64 n, .int .i64 wt] 30)) w.heap.size sB Ol Os ts bl := oinv_below hI ((Below.refl _ _).alloc (Nat.le_refl _) _)
      have hwk : IntKind.i64.wrap ((k : Int) + 1) = (k : Int) + 1 := by rw [IntKind.wrap_i64]; omega
      have HO := hide hI.lst.lt
      have Hrow := hide hrow; have Hfit := hide hfit; have Hl := hide hl; have Hs := hide hs
      clear hrow hfit hrow1 hc hI hk9 hl hs
      by_cases hn : 0 ≤ n ∧ n < 1048576
      · have HP := hide (push_any w.heap.size Ol ts n wt hn (unhide Hs).2 hI1.heap (wr.alloc (.cells #[.bool pp, .int .i64 n, .int .i64 wt] 30)) hI1.lst)
        have HI1 := hide hI1
        have hhn := hI1.has n
        have Hn := hide hn
        have htl := tks_bound hI1.lst
        clear hI1 hn
        cases hd : decide (n ∈ ts.map Tk.n)
        all_goals
          rw [hd] at HP hhn
          go_wp2_with fail
          refine (unhide HP).mono ?_
          rintro e w2 ⟨rfl, ho2, ts', Ol', hl2, hh2, hp2, hO2⟩
          have h1 := unhide HI1
          have htb : w2.heap[wr.heap.size]? = some (.cells #[.bool pp, .int .i64 n, .int .i64 wt] 30 (0, 0)) := (ho2.block _ (by simp) (fun h => by have := unhide HO _ h; omega)).trans (MapKept.heap_alloc wr _).1
          have z1 := cell_block htb 1 _ rfl
          have hbW : Below w2.heap.size w2 (w2.alloc (.cells #[.int .i64 n] 3)) := (Below.refl _ _).alloc (Nat.le_refl _) _
          have hset2 : SetOk (w2.alloc (.cells #[.int .i64 n] 3)) sB Os bl ts.length := ok_below (ok_off h1.set ho2 (fun k hk hl => h1.dis k hl hk)) hbW
          have HAd := hide (add_any sB Os bl ts.length (some ⟨w2.heap.size, 0, none⟩) 1 [n] (by simpa [numsB] using unhide Hn) (by simp; omega) (w2.alloc (.cells #[.int .i64 n] 3)) hset2 (.inr ⟨w2.heap.size, 0, rfl, by simp, fun j hj => by
            have : j = 0 := by simp at hj; omega
            subst this
            exact cell_block (MapKept.heap_alloc w2 _).1 0 _ rfl⟩) (fun x hx hO => by
            cases hx
            have h2 := h1.set.is.lt _ hO
            have h3 := ho2.size
            exact absurd h2 (by show ¬ w2.heap.size < _; omega)))
          rw [addS_one, hhn] at HAd
          have Hst := hide (fun w3 Os' bl' (a : Off Os (w2.alloc (.cells #[.int .i64 n] 3)) w3) b c d => oinv_push (w3 := w3) (Os' := Os') (bl' := bl') h1 ho2 hl2 hh2 hp2 hO2 hbW a b c d)
          clear ho2 hl2 hh2 hp2 hO2 h1 htb hbW hset2 HP HI1
          go_wp2_with fail
          refine (unhide HAd).mono ?_
          rintro e w3 ⟨rfl, ho3, bl', Os', hok3, hO3, hh3⟩
          have hI3 := unhide Hst w3 Os' bl' ho3 (by rw [hhn]; exact hok3) hO3 hh3
          have HI3 := hide hI3
          clear hI3 ho3 hok3 hO3 hh3 Hst HAd z1
          simp only [newK]
          go_wp2
          go_roundw
          case rel => exact ⟨k + 1, congrArg (Value.int .i64) (by omega), by omega, _, _, _, _, unhide HI3⟩
          case measure => simp [intOf]; omega
      · have HP := hide (push_wrong w.heap.size n wt hn (wr.alloc (.cells #[.bool pp, .int .i64 n, .int .i64 wt] 30)))
        have HI1 := hide hI1
        clear hI1 hn
        go_wp2_with fail
        refine (unhide HP).mono ?_
        rintro e w2 ⟨rfl, hw⟩
        obtain rfl := hw.symm
        go_wp2
        go_roundw
        case rel => exact ⟨k + 1, congrArg (Value.int .i64) (by omega), by omega, _, _, _, _, unhide HI1⟩
        case measure => simp [intOf]; omega
    · obtain rfl : k = l.length := by omega
      have hlt' : ¬ ((l.length : Int) < l.length) := by omega
      have HI := hide hI
      clear hI hrow hfit hl
      go_wp2
      go_loopw [12, 13, 14] (fun x y z wr => ∃ (la we : Int) (fi : Bool), x = .int .i64 la ∧ y = .int .i64 we ∧ z = .bool fi ∧ ∃ Ol Os ts bl, OInv w wr w.heap.size sB Ol Os ts bl ∧ (fi = true ∨ ∀ t ∈ ts, we < t.wt ∨ we = t.wt ∧ la < t.n)) (fun _ _ _ W => lenAt w.heap.size W)
      case atStart => exact ⟨0, 0, true, rfl, rfl, rfl, _, _, _, _, unhide HI, .inl rfl⟩
      case round =>
        obtain ⟨la, we, fi, rfl, rfl, rfl, Ol, Os, ts, bl, hI, hfi⟩ := hrel
        clear HI
        have HL := hide (llen_any w.heap.size Ol ts wr hI.lst)
        by_cases h0 : ts = []
        · subst h0
          have HP := hide (pop_none w.heap.size Ol wr hI.lst)
          have HS := hide (lenS_any sB Os bl _ wr hI.set.is)
          have Hb := hide hI.bel
          clear hI hfi
          go_wp2_with fail
          refine (unhide HL).mono ?_
          rintro e w2 ⟨rfl, hw⟩
          obtain rfl := hw.symm
          go_wp2_with fail
          refine (unhide HP).mono ?_
          rintro e w2 ⟨rfl, hw⟩
          obtain rfl := hw.symm
          go_wp2_with (go_at_call 17; refine (unhide HS).mono ?_; rintro e w2 ⟨rfl, hw⟩; obtain rfl := hw.symm)
          go_ret
          exact ⟨rfl, unhide Hb⟩
        · have hpos : 0 < ts.length := by
            cases ts with
            | nil => exact absurd rfl h0
            | cons a l => simp
          have hpos' : (0 : Int) < ts.length := by omega
          have htl := tks_bound hI.lst
          have HP := hide (pop_any w.heap.size Ol ts hpos hI.heap wr hI.lst)
          have HI := hide hI
          have Hla := hide (lenAt_is hI.lst)
          have Hfi := hide hfi
          clear hI hfi
          go_wp2_with fail
          refine (unhide HL).mono ?_
          rintro e w2 ⟨rfl, hw⟩
          obtain rfl := hw.symm
          go_wp2_with fail
          refine (unhide HP).mono ?_
          rintro e w2 ⟨rest, t, rfl, ho2, hl2, hh2, hp2, hm2⟩
          have h1 := unhide HI
          have htm : t ∈ ts := hp2.subset (by simp)
          have hhn : hasB bl t.n = true := by rw [h1.has]; simp only [decide_eq_true_eq]; exact List.mem_map.2 ⟨t, htm, rfl⟩
          have hbW : Below w2.heap.size w2 (w2.alloc (.cells #[.int .i64 t.n] 3)) := (Below.refl _ _).alloc (Nat.le_refl _) _
          have hset2 : SetOk (w2.alloc (.cells #[.int .i64 t.n] 3)) sB Os bl ts.length := ok_below (ok_off h1.set ho2 (fun k hk hl => h1.dis k hl hk)) hbW
          have HD := hide (drop_any sB Os bl ts.length (some ⟨w2.heap.size, 0, none⟩) 1 [t.n] (by simp) (fun k hk => by
            have := (dropS_le (hasB bl) [t.n] k hk).2
            simp at hk; omega) (by omega) (w2.alloc (.cells #[.int .i64 t.n] 3)) hset2 (.inr ⟨w2.heap.size, 0, rfl, by simp, fun j hj => by
            have : j = 0 := by simp at hj; omega
            subst this
            exact cell_block (MapKept.heap_alloc w2 _).1 0 _ rfl⟩) (fun x hx hO => by
            cases hx
            have h2 := h1.set.is.lt _ hO
            have h3 := ho2.size
            exact absurd h2 (by show ¬ w2.heap.size < _; omega)))
          rw [dropS_one, hhn, show newK (!true) = 1 from rfl] at HD
          have Hless := hide (pop_less hp2 h1.lst.apart hm2)
          have Hlen := hide hp2.length_eq
          have Hst := hide (fun w3 bl' (a : Off Os (w2.alloc (.cells #[.int .i64 t.n] 3)) w3) b c => oinv_pop (w3 := w3) (bl' := bl') h1 ho2 hl2 hh2 hp2 hbW a b c)
          have hft : fi = true ∨ we < t.wt ∨ we = t.wt ∧ la < t.n := (unhide Hfi).imp id (fun h => h t htm)
          clear ho2 hl2 hh2 hp2 hm2 h1 hbW hset2 HP HI htm hhn HL Hfi
          go_upto_region 19 with fail
          cases fi
          · have hft' : we < t.wt ∨ we = t.wt ∧ la < t.n := by rcases hft with h | h; cases h; exact h
            have g1 : decide (t.wt < we) = false := by simp; omega
            by_cases hw : t.wt = we
            · have g2 : (t.wt == we) = true := by simpa using hw
              have g3 : decide (t.n ≤ la) = false := by simp; omega
              clear hft hft' hw
              go_wp2_with fail
              refine (unhide HD).mono ?_
              rintro e w3 ⟨rfl, ho3, bl', hok3, hh3⟩
              have hI3 := unhide Hst w3 bl' ho3 hok3 hh3
              have Hmeas : Hid (lenAt w.heap.size w3 < lenAt w.heap.size wr) := hide (by rw [lenAt_is hI3.lst, unhide Hla]; have := unhide Hlen; simp at this; omega)
              have HI3 := hide hI3
              clear hI3 ho3 hok3 hh3 Hst HD
              go_wp2
              go_roundw
              case rel => exact ⟨t.n, t.wt, false, rfl, rfl, rfl, _, _, _, _, unhide HI3, .inr (unhide Hless)⟩
              case measure => exact unhide Hmeas
            · have g2 : (t.wt == we) = false := by simpa using hw
              clear hft hft' hw
              go_wp2_with fail
              refine (unhide HD).mono ?_
              rintro e w3 ⟨rfl, ho3, bl', hok3, hh3⟩
              have hI3 := unhide Hst w3 bl' ho3 hok3 hh3
              have Hmeas : Hid (lenAt w.heap.size w3 < lenAt w.heap.size wr) := hide (by rw [lenAt_is hI3.lst, unhide Hla]; have := unhide Hlen; simp at this; omega)
              have HI3 := hide hI3
              clear hI3 ho3 hok3 hh3 Hst HD
              go_wp2
              go_roundw
              case rel => exact ⟨t.n, t.wt, false, rfl, rfl, rfl, _, _, _, _, unhide HI3, .inr (unhide Hless)⟩
              case measure => exact unhide Hmeas
          · clear hft
            go_wp2_with fail
            refine (unhide HD).mono ?_
            rintro e w3 ⟨rfl, ho3, bl', hok3, hh3⟩
            have hI3 := unhide Hst w3 bl' ho3 hok3 hh3
            have Hmeas : Hid (lenAt w.heap.size w3 < lenAt w.heap.size wr) := hide (by rw [lenAt_is hI3.lst, unhide Hla]; have := unhide Hlen; simp at this; omega)
            have HI3 := hide hI3
            clear hI3 ho3 hok3 hh3 Hst HD
            go_wp2
            go_roundw
            case rel => exact ⟨t.n, t.wt, false, rfl, rfl, rfl, _, _, _, _, unhide HI3, .inr (unhide Hless)⟩
            case measure => exact unhide Hmeas
end Go.Proofs.Ytdpphjedjhjdgaa

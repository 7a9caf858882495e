/- Contract of the reference's part. -/
import Derived.Test.YtodncpnhmmnclaaW21
import Derived.Deep.RegionWith
namespace Go.Proofs.Ytodncpnhmmnclaa
open Go.RowKit
attribute [local go_sem ↓] Go.wp_at_zero Go.wp_at_succ

theorem extract_list (s : ByteArray) (i n : Nat) : s.extract i (i + n) = ⟨((s.data.toList.drop i).take n).toArray⟩ := by
  apply ByteArray.ext
  apply Array.toList_inj.1
  simp [ByteArray.data_extract]
theorem one_byte' (v : ByteArray) (i : Nat) (h : i < v.size) : (v.data.toList.drop i).take 1 = [UInt8.ofNat (bt v i)] := by
  have hl : v.size = v.data.toList.length := Lib.size_eq v
  rw [bt_list]
  have hi : i < v.data.toList.length := by omega
  rw [List.drop_eq_getElem_cons hi]
  simp [List.getD_eq_getElem?_getD, List.getElem?_eq_getElem hi]
theorem extract_one (s : ByteArray) (i : Nat) (h : i < s.size) : s.extract i (i + 1) = ⟨#[UInt8.ofNat (bt s i)]⟩ := by
  rw [extract_list, one_byte' s i h]
theorem index_p1 (s : ByteArray) (i : Nat) (h : i + 1 < s.size) (w : World) : (Instr.index 9 (.string s) (.int .i64 ((i : Int) + 1))).run Try.prog w = .ok (.int .u8 (bt s (i + 1) : Int)) w := index_add s i 1 h w

set_option maxHeartbeats 1000000 in
theorem rPart_no (s : ByteArray) (i : Nat) (r n : Int) (ok : Bool) (w : World)
    (H : Hid (∀ w, Calls Try.prog 10 #[.string s, .int .i64 i] w fun e w' => e = .returned (.tuple #[.int .i32 r, .int .i64 n, .bool ok]) ∧ Below w.heap.size w w'))
    (h : ok = false ∨ (ok = true ∧ r < 32) ∨ (ok = true ∧ r = 127) ∨ (ok = true ∧ r = 34)) :
    Calls Try.prog 41 #[.string s, .int .i64 i] w fun e w' => e = .returned (.tuple #[.string ⟨#[]⟩, .int .i64 0]) ∧ Below w.heap.size w w' := by
  rcases h with rfl | ⟨rfl, h1⟩ | ⟨rfl, rfl⟩ | ⟨rfl, rfl⟩
  all_goals
    go_enter Try.func41, Try.ntmps41
    go_wp2_with fail
    refine (unhide H _).mono ?_
    rintro e w1 ⟨rfl, hb1⟩
    go_wp2
    go_ret2
    exact ⟨rfl, hb1⟩
set_option maxHeartbeats 1000000 in
theorem rPart_plain (s : ByteArray) (i n : Nat) (hn : i + n ≤ s.size) (hs : s.size ≤ 281474976710656) (r : Int) (w : World) (h1 : ¬ r < 32) (h2 : (r == 127) = false) (h3 : (r == 34) = false) (h4 : (r != 92) = true)
    (H : Hid (∀ w, Calls Try.prog 10 #[.string s, .int .i64 i] w fun e w' => e = .returned (.tuple #[.int .i32 r, .int .i64 (n : Int), .bool true]) ∧ Below w.heap.size w w')) :
    Calls Try.prog 41 #[.string s, .int .i64 i] w fun e w' => e = .returned (.tuple #[.string (s.extract i (i + n)), .int .i64 (n : Int)]) ∧ Below w.heap.size w w' := by
  go_enter Try.func41, Try.ntmps41
  go_wp2_with fail
  refine (unhide H _).mono ?_
  rintro e w1 ⟨rfl, hb1⟩
  have hs0 : (0 : Int) ≤ (i : Int) := by omega
  have hs1 : (i : Int) ≤ (i : Int) + (n : Int) := by omega
  have hs2 : (i : Int) + (n : Int) ≤ (s.size : Int) := by omega
  go_wp2
  go_ret2
  exact ⟨rfl, hb1⟩
set_option maxHeartbeats 2000000 in
set_option maxRecDepth 100000 in
theorem rPart_esc (s : ByteArray) (i n : Nat) (hi : i < s.size) (hs : s.size ≤ 281474976710656) (w : World)
    (H : Hid (∀ w, Calls Try.prog 10 #[.string s, .int .i64 i] w fun e w' => e = .returned (.tuple #[.int .i32 92, .int .i64 (n : Int), .bool true]) ∧ Below w.heap.size w w'))
    (HZ : bt s (i + 1) = 120 → Calls Try.prog 41 #[.string s, .int .i64 i] w fun e w' => e = .returned (.tuple #[.string ⟨(escF (s.size - i) (fun j => bt s (i + j))).1.toArray⟩, .int .i64 ((escF (s.size - i) (fun j => bt s (i + j))).2 : Int)]) ∧ Below w.heap.size w w') :
    Calls Try.prog 41 #[.string s, .int .i64 i] w fun e w' => e = .returned (.tuple #[.string ⟨(escF (s.size - i) (fun j => bt s (i + j))).1.toArray⟩, .int .i64 ((escF (s.size - i) (fun j => bt s (i + j))).2 : Int)]) ∧ Below w.heap.size w w' := by
  by_cases hz : bt s (i + 1) = 120
  · exact HZ hz
  clear HZ
  by_cases hn : i + 1 < s.size
  · have hn2 : ¬ (s.size : Int) ≤ (i : Int) + 1 := by omega
    have j1 := index_p1 s i hn
    have b1 := bt_lt s (i + 1)
    have He := hide (show escF (s.size - i) (fun j => bt s (i + j)) = (if bt s (i + 1) = 110 then ([10], 2) else if bt s (i + 1) = 116 then ([9], 2) else if bt s (i + 1) = 114 then ([13], 2)
      else if bt s (i + 1) = 34 ∨ bt s (i + 1) = 92 then ([UInt8.ofNat (bt s (i + 1))], 2) else if bt s (i + 1) = 120 then xF (s.size - i) (fun j => bt s (i + j)) else if bt s (i + 1) = 117 then numF (s.size - i) (fun j => bt s (i + j)) else ([], 0)) by unfold escF xF; rw [if_neg (by omega)])
    have HU := hide (rNumber_any s hs i hn)
    have HX := hide (extract_one s (i + 1) hn)
    generalize escF (s.size - i) (fun j => bt s (i + j)) = E at *
    generalize numF (s.size - i) (fun j => bt s (i + j)) = U at *
    have Hb := hide (rfl : bt s (i + 1) = bt s (i + 1))
    generalize hbb : bt s (i + 1) = b at *
    clear Hb hbb
    by_cases c1 : b = 110
    · subst c1
      rw [if_pos rfl] at He
      go_enter Try.func41, Try.ntmps41
      go_wp2_with fail
      refine (unhide H _).mono ?_
      rintro e w1 ⟨rfl, hb1⟩
      go_wp2
      go_ret2
      rw [unhide He]
      exact ⟨rfl, hb1⟩
    rw [if_neg c1] at He
    have d1 : ((b : Int) == 110) = false := by simp; omega
    by_cases c2 : b = 116
    · subst c2
      rw [if_pos rfl] at He
      go_enter Try.func41, Try.ntmps41
      go_wp2_with fail
      refine (unhide H _).mono ?_
      rintro e w1 ⟨rfl, hb1⟩
      go_wp2
      go_ret2
      rw [unhide He]
      exact ⟨rfl, hb1⟩
    rw [if_neg c2] at He
    have d2 : ((b : Int) == 116) = false := by simp; omega
    by_cases c3 : b = 114
    · subst c3
      rw [if_pos rfl] at He
      go_enter Try.func41, Try.ntmps41
      go_wp2_with fail
      refine (unhide H _).mono ?_
      rintro e w1 ⟨rfl, hb1⟩
      go_wp2
      go_ret2
      rw [unhide He]
      exact ⟨rfl, hb1⟩
    rw [if_neg c3] at He
    have d3 : ((b : Int) == 114) = false := by simp; omega
    by_cases c4 : b = 34 ∨ b = 92
    · rw [if_pos c4] at He
      have hs0 : (0 : Int) ≤ (i : Int) + 1 := by omega
      have hs1 : (i : Int) + 1 ≤ (i : Int) + 2 := by omega
      have hs2 : (i : Int) + 2 ≤ (s.size : Int) := by omega
      have t1 : ((i : Int) + 1).toNat = i + 1 := by omega
      have t2 : ((i : Int) + 2).toNat = i + 1 + 1 := by omega
      have hx := unhide HX
      by_cases c5 : b = 34
      · have d4 : ((b : Int) == 34) = true := by simp; omega
        clear c4 c5
        go_enter Try.func41, Try.ntmps41
        go_wp2_with fail
        refine (unhide H _).mono ?_
        rintro e w1 ⟨rfl, hb1⟩
        go_wp2
        go_ret2
        rw [unhide He]
        exact ⟨by rw [← hx]; rfl, hb1⟩
      · have d4 : ((b : Int) == 34) = false := by simp; omega
        have d5 : ((b : Int) == 92) = true := by simp; omega
        clear c4 c5
        go_enter Try.func41, Try.ntmps41
        go_wp2_with fail
        refine (unhide H _).mono ?_
        rintro e w1 ⟨rfl, hb1⟩
        go_wp2
        go_ret2
        rw [unhide He]
        exact ⟨by rw [← hx]; rfl, hb1⟩
    rw [if_neg c4] at He
    have d4 : ((b : Int) == 34) = false := by simp; omega
    have d5 : ((b : Int) == 92) = false := by simp; omega
    by_cases c5 : b = 120
    · exact absurd c5 hz
    rw [if_neg c5] at He
    have d6 : ((b : Int) == 120) = false := by simp; omega
    by_cases c6 : b = 117
    · rw [if_pos c6] at He
      have d7 : ((b : Int) == 117) = true := by simp; omega
      clear c1 c2 c3 c4 c5 c6
      go_enter Try.func41, Try.ntmps41
      go_wp2_with fail
      refine (unhide H _).mono ?_
      rintro e w1 ⟨rfl, hb1⟩
      have Hb1 := hide hb1
      clear hb1
      go_wp2_with fail
      refine (unhide HU _).mono ?_
      rintro e w2 ⟨rfl, hb2⟩
      go_wp2
      go_ret2
      rw [unhide He]
      exact ⟨rfl, (unhide Hb1).trans (hb2.mono (unhide Hb1).size)⟩
    · rw [if_neg c6] at He
      have d7 : ((b : Int) == 117) = false := by simp; omega
      clear c1 c2 c3 c4 c5 c6
      go_enter Try.func41, Try.ntmps41
      go_wp2_with fail
      refine (unhide H _).mono ?_
      rintro e w1 ⟨rfl, hb1⟩
      go_wp2
      go_ret2
      rw [unhide He]
      exact ⟨rfl, hb1⟩
  · have hn2 : (s.size : Int) ≤ (i : Int) + 1 := by omega
    rw [show escF (s.size - i) (fun j => bt s (i + j)) = ([], 0) by unfold escF; rw [if_pos (by omega)]]
    go_enter Try.func41, Try.ntmps41
    go_wp2_with fail
    refine (unhide H _).mono ?_
    rintro e w1 ⟨rfl, hb1⟩
    go_wp2
    go_ret2
    exact ⟨rfl, hb1⟩
theorem rPart_any (s : ByteArray) (hs : s.size ≤ 281474976710656) (i : Nat) (hi : i < s.size) (w : World)
    (HZ : (Utf8.decode s i).1 = 92 → bt s (i + 1) = 120 → Calls Try.prog 41 #[.string s, .int .i64 i] w fun e w' => e = .returned (.tuple #[.string ⟨(escF (s.size - i) (fun j => bt s (i + j))).1.toArray⟩, .int .i64 ((escF (s.size - i) (fun j => bt s (i + j))).2 : Int)]) ∧ Below w.heap.size w w') :
    Calls Try.prog 41 #[.string s, .int .i64 i] w fun e w' => e = .returned (.tuple #[.string ⟨(partL s i).1.toArray⟩, .int .i64 ((partL s i).2 : Int)]) ∧ Below w.heap.size w w' := by
  have H := rNext_any s i (by omega)
  unfold nextV at H
  cases hn : noneB s i
  · rw [nextT_rune s i hi hn] at H
    simp only at H
    obtain ⟨hv, hw, h1, h4, hfit⟩ := piece_rune s i hi hn
    by_cases h92 : (Utf8.decode s i).1 = 92
    · rw [show partL s i = escF (s.size - i) (fun j => bt s (i + j)) by unfold partL; rw [if_pos h92]]
      rw [h92] at H
      exact rPart_esc s i _ hi hs w (hide H) (HZ h92)
    · by_cases hp : (Utf8.decode s i).1 < 32 ∨ (Utf8.decode s i).1 = 127 ∨ (Utf8.decode s i).1 = 34
      · rw [show partL s i = ([], 0) by
          unfold partL; rw [if_neg h92]
          have : (plainB s i && !decide ((Utf8.decode s i).1 = 34)) = false := by
            rcases hp with e | e | e
            · have : ¬ 32 ≤ (Utf8.decode s i).1 := by omega
              simp [plainB, this]
            · simp [plainB, e]
            · simp [e]
          rw [this]; rfl]
        refine rPart_no s i _ _ true w (hide H) (.inr ?_)
        rcases hp with e | e | e
        · exact .inl ⟨rfl, by omega⟩
        · exact .inr (.inl ⟨rfl, by omega⟩)
        · exact .inr (.inr ⟨rfl, by omega⟩)
      · rw [show partL s i = (Lib.encodeRune ((Utf8.decode s i).1 : Int), (Utf8.decode s i).2) by
          unfold partL; rw [if_neg h92]
          have : (plainB s i && !decide ((Utf8.decode s i).1 = 34)) = true := by
            simp [plainB, hn]; omega
          rw [this]; rfl]
        have := rPart_plain s i _ hfit hs _ w (by omega) (by simp; omega) (by simp; omega) (by simp; omega) (hide H)
        rw [extract_list, ← piece_bytes s i hi hn] at this
        exact this
  · rw [nextT_none s i hi hn] at H
    rw [show partL s i = ([], 0) by
      have hd : Utf8.decode s i = (65533, 1) := by simpa only [noneB, beq_iff_eq] using hn
      unfold partL; rw [if_neg (by rw [hd]; simp)]
      simp [plainB, hn]]
    exact rPart_no s i _ _ false w (hide H) (.inl rfl)
end Go.Proofs.Ytodncpnhmmnclaa

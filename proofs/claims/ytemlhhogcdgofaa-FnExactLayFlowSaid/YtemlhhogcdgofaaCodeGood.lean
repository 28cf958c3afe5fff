/-
  What the specification's l3Good and GoodCode answer, at every step and every list of steps; they make new memory alone.
-/
import Derived.Test.YtemlhhogcdgofaaProg
import Derived.Test.YtemlhhogcdgofaaMagMath
import Derived.Test.YtemlhhogcdgofaaCodeMath
import Derived.Test.YtemlhhogcdgofaaInts
import Derived.Test.YtemlhhogcdgofaaRecsInstr
import Derived.WalkKit
import Derived.WalkSpells
import Derived.Below
import Derived.Handy
namespace Go.Proofs.Ytemlhhogcdgofaa.walks
open Go.RowKit Go.Proofs.Ytemlhhogcdgofaa.math Go.Proofs.Ytemlhhogcdgofaa.ints
set_option linter.unusedVariables false

theorem spec_in (n lo hi : Int) (W : World) : Calls Try.prog 35 #[.int .i64 n, .int .i64 lo, .int .i64 hi] W fun e W' => e = .returned (.bool (inR n lo hi)) ∧ W' = W := by
  by_cases h0 : lo ≤ n
  rotate_left
  · have k0 : n < lo := by omega
    have d0 : decide (lo ≤ n) = false := decide_eq_false h0
    rw [inR_lt k0]
    clear h0
    go_enter Try.func35, Try.ntmps35
    go_wp2
    go_ret
    exact ⟨rfl, rfl⟩
  by_cases h1 : n ≤ hi
  rotate_left
  · have k1 : hi < n := by omega
    have d1 : decide (n ≤ hi) = false := decide_eq_false h1
    rw [inR_gt k1]
    clear h1
    go_enter Try.func35, Try.ntmps35
    go_wp2
    go_ret
    exact ⟨rfl, rfl⟩
  rw [inR_mk h0 h1]
  have d1 : decide (n ≤ hi) = true := decide_eq_true h1
  have d0 : decide (lo ≤ n) = true := decide_eq_true h0
  go_enter Try.func35, Try.ntmps35
  go_wp2
  go_ret
  exact ⟨rfl, rfl⟩
theorem spec_name (n : Int) (W : World) : Calls Try.prog 34 #[.int .i64 n] W fun e W' => e = .returned (.bool (inR n 0 7)) ∧ W' = W := by
  go_enter Try.func34, Try.ntmps34
  go_wp2_with (go_at_call 35; refine (spec_in _ _ _ _).mono ?_; rintro e w' ⟨rfl, rfl⟩)
  go_ret
  exact ⟨rfl, rfl⟩
theorem spec_word (n : Int) (W : World) : Calls Try.prog 53 #[.int .i64 n] W fun e W' => e = .returned (.bool (inR n 0 65535)) ∧ W' = W := by
  go_enter Try.func53, Try.ntmps53
  go_wp2_with (go_at_call 35; refine (spec_in _ _ _ _).mono ?_; rintro e w' ⟨rfl, rfl⟩)
  go_ret
  exact ⟨rfl, rfl⟩
theorem spec_two (n : Int) (W : World) : Calls Try.prog 54 #[.int .i64 n] W fun e W' => e = .returned (.bool (inR n 3 7)) ∧ W' = W := by
  go_enter Try.func54, Try.ntmps54
  go_wp2_with (go_at_call 35; refine (spec_in _ _ _ _).mono ?_; rintro e w' ⟨rfl, rfl⟩)
  go_ret
  exact ⟨rfl, rfl⟩

set_option maxHeartbeats 2000000 in
theorem spec_step_1 (d a b n : Int) (W : World) : Calls Try.prog 48 #[.agg #[.int .i64 1, .int .i64 d, .int .i64 a, .int .i64 b, .int .i64 n]] W fun e W' => e = .returned (.bool (goodI 1 d a b n)) ∧ W' = W.alloc (.cells #[.int .i64 1, .int .i64 d, .int .i64 a, .int .i64 b, .int .i64 n] 74) := by
  rw [goodI_1]
  cases t0 : inR d 0 7
  · skip
    go_enter Try.func48, Try.ntmps48
    go_wp2_with (first | (go_at_call 34; refine (spec_name _ _).mono ?_; rintro e w' ⟨rfl, rfl⟩) | (go_at_call 53; refine (spec_word _ _).mono ?_; rintro e w' ⟨rfl, rfl⟩) | (go_at_call 54; refine (spec_two _ _).mono ?_; rintro e w' ⟨rfl, rfl⟩))
    go_ret
    exact ⟨by first | rfl | simp, rfl⟩
  cases t1 : (a == 0)
  · skip
    go_enter Try.func48, Try.ntmps48
    go_wp2_with (first | (go_at_call 34; refine (spec_name _ _).mono ?_; rintro e w' ⟨rfl, rfl⟩) | (go_at_call 53; refine (spec_word _ _).mono ?_; rintro e w' ⟨rfl, rfl⟩) | (go_at_call 54; refine (spec_two _ _).mono ?_; rintro e w' ⟨rfl, rfl⟩))
    go_ret
    exact ⟨by first | rfl | simp, rfl⟩
  cases t2 : (b == 0)
  · skip
    go_enter Try.func48, Try.ntmps48
    go_wp2_with (first | (go_at_call 34; refine (spec_name _ _).mono ?_; rintro e w' ⟨rfl, rfl⟩) | (go_at_call 53; refine (spec_word _ _).mono ?_; rintro e w' ⟨rfl, rfl⟩) | (go_at_call 54; refine (spec_two _ _).mono ?_; rintro e w' ⟨rfl, rfl⟩))
    go_ret
    exact ⟨by first | rfl | simp, rfl⟩
  cases t3 : inR n 0 65535
  · skip
    go_enter Try.func48, Try.ntmps48
    go_wp2_with (first | (go_at_call 34; refine (spec_name _ _).mono ?_; rintro e w' ⟨rfl, rfl⟩) | (go_at_call 53; refine (spec_word _ _).mono ?_; rintro e w' ⟨rfl, rfl⟩) | (go_at_call 54; refine (spec_two _ _).mono ?_; rintro e w' ⟨rfl, rfl⟩))
    go_ret
    exact ⟨by first | rfl | simp, rfl⟩
  go_enter Try.func48, Try.ntmps48
  go_wp2_with (first | (go_at_call 34; refine (spec_name _ _).mono ?_; rintro e w' ⟨rfl, rfl⟩) | (go_at_call 53; refine (spec_word _ _).mono ?_; rintro e w' ⟨rfl, rfl⟩) | (go_at_call 54; refine (spec_two _ _).mono ?_; rintro e w' ⟨rfl, rfl⟩))
  go_ret
  exact ⟨by first | rfl | simp, rfl⟩

set_option maxHeartbeats 2000000 in
theorem spec_step_2 (d a b n : Int) (W : World) : Calls Try.prog 48 #[.agg #[.int .i64 2, .int .i64 d, .int .i64 a, .int .i64 b, .int .i64 n]] W fun e W' => e = .returned (.bool (goodI 2 d a b n)) ∧ W' = W.alloc (.cells #[.int .i64 2, .int .i64 d, .int .i64 a, .int .i64 b, .int .i64 n] 74) := by
  rw [goodI_2]
  cases t0 : inR d 0 7
  · skip
    go_enter Try.func48, Try.ntmps48
    go_wp2_with (first | (go_at_call 34; refine (spec_name _ _).mono ?_; rintro e w' ⟨rfl, rfl⟩) | (go_at_call 53; refine (spec_word _ _).mono ?_; rintro e w' ⟨rfl, rfl⟩) | (go_at_call 54; refine (spec_two _ _).mono ?_; rintro e w' ⟨rfl, rfl⟩))
    go_ret
    exact ⟨by first | rfl | simp, rfl⟩
  cases t1 : inR a 0 7
  · skip
    go_enter Try.func48, Try.ntmps48
    go_wp2_with (first | (go_at_call 34; refine (spec_name _ _).mono ?_; rintro e w' ⟨rfl, rfl⟩) | (go_at_call 53; refine (spec_word _ _).mono ?_; rintro e w' ⟨rfl, rfl⟩) | (go_at_call 54; refine (spec_two _ _).mono ?_; rintro e w' ⟨rfl, rfl⟩))
    go_ret
    exact ⟨by first | rfl | simp, rfl⟩
  cases t2 : (b == 0)
  · skip
    go_enter Try.func48, Try.ntmps48
    go_wp2_with (first | (go_at_call 34; refine (spec_name _ _).mono ?_; rintro e w' ⟨rfl, rfl⟩) | (go_at_call 53; refine (spec_word _ _).mono ?_; rintro e w' ⟨rfl, rfl⟩) | (go_at_call 54; refine (spec_two _ _).mono ?_; rintro e w' ⟨rfl, rfl⟩))
    go_ret
    exact ⟨by first | rfl | simp, rfl⟩
  cases t3 : (n == 0)
  · skip
    go_enter Try.func48, Try.ntmps48
    go_wp2_with (first | (go_at_call 34; refine (spec_name _ _).mono ?_; rintro e w' ⟨rfl, rfl⟩) | (go_at_call 53; refine (spec_word _ _).mono ?_; rintro e w' ⟨rfl, rfl⟩) | (go_at_call 54; refine (spec_two _ _).mono ?_; rintro e w' ⟨rfl, rfl⟩))
    go_ret
    exact ⟨by first | rfl | simp, rfl⟩
  go_enter Try.func48, Try.ntmps48
  go_wp2_with (first | (go_at_call 34; refine (spec_name _ _).mono ?_; rintro e w' ⟨rfl, rfl⟩) | (go_at_call 53; refine (spec_word _ _).mono ?_; rintro e w' ⟨rfl, rfl⟩) | (go_at_call 54; refine (spec_two _ _).mono ?_; rintro e w' ⟨rfl, rfl⟩))
  go_ret
  exact ⟨by first | rfl | simp, rfl⟩

set_option maxHeartbeats 2000000 in
theorem spec_step_8 (d a b n : Int) (W : World) : Calls Try.prog 48 #[.agg #[.int .i64 8, .int .i64 d, .int .i64 a, .int .i64 b, .int .i64 n]] W fun e W' => e = .returned (.bool (goodI 8 d a b n)) ∧ W' = W.alloc (.cells #[.int .i64 8, .int .i64 d, .int .i64 a, .int .i64 b, .int .i64 n] 74) := by
  rw [goodI_8]
  cases t0 : (d == 0)
  · skip
    go_enter Try.func48, Try.ntmps48
    go_wp2_with (first | (go_at_call 34; refine (spec_name _ _).mono ?_; rintro e w' ⟨rfl, rfl⟩) | (go_at_call 53; refine (spec_word _ _).mono ?_; rintro e w' ⟨rfl, rfl⟩) | (go_at_call 54; refine (spec_two _ _).mono ?_; rintro e w' ⟨rfl, rfl⟩))
    go_ret
    exact ⟨by first | rfl | simp, rfl⟩
  cases t1 : inR a 0 7
  · skip
    go_enter Try.func48, Try.ntmps48
    go_wp2_with (first | (go_at_call 34; refine (spec_name _ _).mono ?_; rintro e w' ⟨rfl, rfl⟩) | (go_at_call 53; refine (spec_word _ _).mono ?_; rintro e w' ⟨rfl, rfl⟩) | (go_at_call 54; refine (spec_two _ _).mono ?_; rintro e w' ⟨rfl, rfl⟩))
    go_ret
    exact ⟨by first | rfl | simp, rfl⟩
  cases t2 : (b == 0)
  · skip
    go_enter Try.func48, Try.ntmps48
    go_wp2_with (first | (go_at_call 34; refine (spec_name _ _).mono ?_; rintro e w' ⟨rfl, rfl⟩) | (go_at_call 53; refine (spec_word _ _).mono ?_; rintro e w' ⟨rfl, rfl⟩) | (go_at_call 54; refine (spec_two _ _).mono ?_; rintro e w' ⟨rfl, rfl⟩))
    go_ret
    exact ⟨by first | rfl | simp, rfl⟩
  cases t3 : (n == 0)
  · skip
    go_enter Try.func48, Try.ntmps48
    go_wp2_with (first | (go_at_call 34; refine (spec_name _ _).mono ?_; rintro e w' ⟨rfl, rfl⟩) | (go_at_call 53; refine (spec_word _ _).mono ?_; rintro e w' ⟨rfl, rfl⟩) | (go_at_call 54; refine (spec_two _ _).mono ?_; rintro e w' ⟨rfl, rfl⟩))
    go_ret
    exact ⟨by first | rfl | simp, rfl⟩
  go_enter Try.func48, Try.ntmps48
  go_wp2_with (first | (go_at_call 34; refine (spec_name _ _).mono ?_; rintro e w' ⟨rfl, rfl⟩) | (go_at_call 53; refine (spec_word _ _).mono ?_; rintro e w' ⟨rfl, rfl⟩) | (go_at_call 54; refine (spec_two _ _).mono ?_; rintro e w' ⟨rfl, rfl⟩))
  go_ret
  exact ⟨by first | rfl | simp, rfl⟩

set_option maxHeartbeats 2000000 in
theorem spec_step_o (o d a b n : Int) (W : World) (h1 : o ≠ 1) (h2 : o ≠ 2) (h8 : o ≠ 8) : Calls Try.prog 48 #[.agg #[.int .i64 o, .int .i64 d, .int .i64 a, .int .i64 b, .int .i64 n]] W fun e W' => e = .returned (.bool (goodI o d a b n)) ∧ W' = W.alloc (.cells #[.int .i64 o, .int .i64 d, .int .i64 a, .int .i64 b, .int .i64 n] 74) := by
  rw [goodI_o o d a b n h1 h2 h8]
  have q1 : (o == 1) = false := by simpa using h1
  have p1 : decide (o = 1) = false := decide_eq_false h1
  have q2 : (o == 2) = false := by simpa using h2
  have p2 : decide (o = 2) = false := decide_eq_false h2
  have q8 : (o == 8) = false := by simpa using h8
  have p8 : decide (o = 8) = false := decide_eq_false h8
  cases t0 : inR o 3 7
  · skip
    go_enter Try.func48, Try.ntmps48
    go_wp2_with (first | (go_at_call 34; refine (spec_name _ _).mono ?_; rintro e w' ⟨rfl, rfl⟩) | (go_at_call 53; refine (spec_word _ _).mono ?_; rintro e w' ⟨rfl, rfl⟩) | (go_at_call 54; refine (spec_two _ _).mono ?_; rintro e w' ⟨rfl, rfl⟩))
    go_ret
    exact ⟨by first | rfl | simp, rfl⟩
  cases t1 : inR d 0 7
  · skip
    go_enter Try.func48, Try.ntmps48
    go_wp2_with (first | (go_at_call 34; refine (spec_name _ _).mono ?_; rintro e w' ⟨rfl, rfl⟩) | (go_at_call 53; refine (spec_word _ _).mono ?_; rintro e w' ⟨rfl, rfl⟩) | (go_at_call 54; refine (spec_two _ _).mono ?_; rintro e w' ⟨rfl, rfl⟩))
    go_ret
    exact ⟨by first | rfl | simp, rfl⟩
  cases t2 : inR a 0 7
  · skip
    go_enter Try.func48, Try.ntmps48
    go_wp2_with (first | (go_at_call 34; refine (spec_name _ _).mono ?_; rintro e w' ⟨rfl, rfl⟩) | (go_at_call 53; refine (spec_word _ _).mono ?_; rintro e w' ⟨rfl, rfl⟩) | (go_at_call 54; refine (spec_two _ _).mono ?_; rintro e w' ⟨rfl, rfl⟩))
    go_ret
    exact ⟨by first | rfl | simp, rfl⟩
  cases t3 : inR b 0 7
  · skip
    go_enter Try.func48, Try.ntmps48
    go_wp2_with (first | (go_at_call 34; refine (spec_name _ _).mono ?_; rintro e w' ⟨rfl, rfl⟩) | (go_at_call 53; refine (spec_word _ _).mono ?_; rintro e w' ⟨rfl, rfl⟩) | (go_at_call 54; refine (spec_two _ _).mono ?_; rintro e w' ⟨rfl, rfl⟩))
    go_ret
    exact ⟨by first | rfl | simp, rfl⟩
  cases t4 : (n == 0)
  · skip
    go_enter Try.func48, Try.ntmps48
    go_wp2_with (first | (go_at_call 34; refine (spec_name _ _).mono ?_; rintro e w' ⟨rfl, rfl⟩) | (go_at_call 53; refine (spec_word _ _).mono ?_; rintro e w' ⟨rfl, rfl⟩) | (go_at_call 54; refine (spec_two _ _).mono ?_; rintro e w' ⟨rfl, rfl⟩))
    go_ret
    exact ⟨by first | rfl | simp, rfl⟩
  go_enter Try.func48, Try.ntmps48
  go_wp2_with (first | (go_at_call 34; refine (spec_name _ _).mono ?_; rintro e w' ⟨rfl, rfl⟩) | (go_at_call 53; refine (spec_word _ _).mono ?_; rintro e w' ⟨rfl, rfl⟩) | (go_at_call 54; refine (spec_two _ _).mono ?_; rintro e w' ⟨rfl, rfl⟩))
  go_ret
  exact ⟨by first | rfl | simp, rfl⟩

theorem spec_step (o d a b n : Int) (W : World) : Calls Try.prog 48 #[.agg #[.int .i64 o, .int .i64 d, .int .i64 a, .int .i64 b, .int .i64 n]] W fun e W' => e = .returned (.bool (goodI o d a b n)) ∧ W' = W.alloc (.cells #[.int .i64 o, .int .i64 d, .int .i64 a, .int .i64 b, .int .i64 n] 74) := by
  by_cases h1 : o = 1
  · subst h1; exact spec_step_1 d a b n W
  by_cases h2 : o = 2
  · subst h2; exact spec_step_2 d a b n W
  by_cases h8 : o = 8
  · subst h8; exact spec_step_8 d a b n W
  exact spec_step_o o d a b n W h1 h2 h8

set_option maxHeartbeats 2000000 in
theorem spec_code (a : Option Addr) (len cap : Nat) (zs : List Int) (W : World) (hz : Hid (zs.length = len * 5)) (hlen : len ≤ 1048576) (h : Hid (Ints W a zs)) :
    Calls Try.prog 33 #[.slice a len cap] W fun e W' => e = .returned (.bool (codeB zs len)) ∧ Below W.heap.size W W' := by
  go_enter Try.func33, Try.ntmps33
  go_wp2
  go_loopw [7] (fun vi wr => ∃ k : Nat, k ≤ len ∧ vi = .int .i64 k ∧ Hid (∀ j, j < k → stepB zs j = true) ∧ Hid (Below W.heap.size W wr)) (fun vi _ => len - (intOf vi).toNat)
  case atStart => exact ⟨0, Nat.zero_le _, rfl, fun j hj => by omega, Below.refl _ _⟩
  case round =>
    obtain ⟨k, hk, rfl, HG, HB⟩ := hrel
    by_cases hlt : k < len
    · obtain ⟨b, off, ha, hb, c0, c1, c2, c3, c4⟩ := Instr_at h.out hz.out HB.out hlt
      subst ha
      have hs := HB.out.size
      cases hg : stepB zs k
      · have HE : Hid (codeB zs len = false) := code_bad hlt hg
        have hg' : goodI (zs[k * 5]?.getD 0) (zs[k * 5 + 1]?.getD 0) (zs[k * 5 + 2]?.getD 0) (zs[k * 5 + 3]?.getD 0) (zs[k * 5 + 4]?.getD 0) = false := by
          unfold stepB at hg; simpa using hg
        clear hg
        go_wp2_with (go_at_call 48; refine (spec_step _ _ _ _ _ _).mono ?_; rintro e w' ⟨rfl, rfl⟩)
        go_ret
        refine ⟨by rw [HE.out]; rfl, ?_⟩
        refine Below.trans HB.out ?_
        go_grown
      · have HG' : Hid (∀ j, j < k + 1 → stepB zs j = true) := by
          show ∀ j, j < k + 1 → _
          intro j hj
          by_cases e : j = k
          · rw [e]; exact hg
          · exact HG.out j (by omega)
        have hg' : goodI (zs[k * 5]?.getD 0) (zs[k * 5 + 1]?.getD 0) (zs[k * 5 + 2]?.getD 0) (zs[k * 5 + 3]?.getD 0) (zs[k * 5 + 4]?.getD 0) = true := by
          unfold stepB at hg; simpa using hg
        clear hg
        go_wp2_with (go_at_call 48; refine (spec_step _ _ _ _ _ _).mono ?_; rintro e w' ⟨rfl, rfl⟩)
        go_roundw
        case rel =>
          refine ⟨k + 1, by omega, by go_num, HG', ?_⟩
          show Below _ _ _
          refine Below.trans HB.out ?_
          go_grown
        case measure => simp [intOf]; omega
    · have HE : Hid (codeB zs len = decide (len ≤ 30)) := by
        show codeB zs len = decide (len ≤ 30)
        by_cases h30 : len ≤ 30
        · rw [decide_eq_true h30]; exact code_mk h30 (fun j hj => HG.out j (by omega))
        · rw [decide_eq_false h30]; exact code_long (by omega)
      by_cases h30 : len ≤ 30
      · rw [decide_eq_true h30] at HE
        have h3 : (len : Int) ≤ 30 := by omega
        go_wp2
        go_ret
        exact ⟨by rw [HE.out]; simp <;> omega, HB.out⟩
      · rw [decide_eq_false h30] at HE
        have h3 : (30 : Int) < (len : Int) := by omega
        go_wp2
        go_ret
        exact ⟨by rw [HE.out]; simp <;> omega, HB.out⟩
end Go.Proofs.Ytemlhhogcdgofaa.walks

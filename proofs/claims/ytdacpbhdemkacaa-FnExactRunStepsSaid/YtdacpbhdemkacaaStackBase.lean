/-
  What the small tests of stack steps answer, of the specification and of the program, at every int.
-/
import Derived.Test.YtdacpbhdemkacaaProg
import Derived.Test.YtdacpbhdemkacaaMagMath
import Derived.Test.YtdacpbhdemkacaaStackMath
import Derived.Test.YtdacpbhdemkacaaInts
import Derived.WalkKit
import Derived.WalkSpells
import Derived.Below
import Derived.Handy
import Derived.Deep.DeepFit
namespace Go.Proofs.Ytdacpbhdemkacaa.walks
open Go.RowKit Go.Proofs.Ytdacpbhdemkacaa.math Go.Proofs.Ytdacpbhdemkacaa.ints
set_option linter.unusedVariables false
set_option maxRecDepth 100000

theorem in_quiet {n lo hi : Int} {b : Bool} (h : inR n lo hi = b) (W : World) : Calls Try.prog 59 #[.int .i64 n, .int .i64 lo, .int .i64 hi] W fun e W' => e = .returned (.bool b) ∧ W' = W := by
  subst h
  by_cases h0 : lo ≤ n
  rotate_left
  · have k0 : n < lo := by omega
    have d0 : decide (lo ≤ n) = false := decide_eq_false h0
    rw [inR_lt k0]
    clear h0
    go_enter Try.func59, Try.ntmps59
    go_wp2
    go_ret
    exact ⟨rfl, rfl⟩
  by_cases h1 : n ≤ hi
  rotate_left
  · have k1 : hi < n := by omega
    have d1 : decide (n ≤ hi) = false := decide_eq_false (by omega)
    rw [inR_gt k1]
    clear h1
    go_enter Try.func59, Try.ntmps59
    go_wp2
    go_ret
    exact ⟨rfl, rfl⟩
  rw [inR_mk h0 h1]
  have d1 : decide (n ≤ hi) = true := decide_eq_true (by omega)
  have d0 : decide (lo ≤ n) = true := decide_eq_true h0
  go_enter Try.func59, Try.ntmps59
  go_wp2
  go_ret
  exact ⟨rfl, rfl⟩
theorem btw_quiet {n lo hi : Int} {b : Bool} (h : inR n lo hi = b) (W : World) : Calls Try.prog 42 #[.int .i64 lo, .int .i64 n, .int .i64 hi] W fun e W' => e = .returned (.bool b) ∧ W' = W := by
  subst h
  by_cases h0 : lo ≤ n
  rotate_left
  · have k0 : n < lo := by omega
    have d0 : decide (lo ≤ n) = false := decide_eq_false h0
    rw [inR_lt k0]
    clear h0
    go_enter Try.func42, Try.ntmps42
    go_wp2
    go_ret
    exact ⟨rfl, rfl⟩
  by_cases h1 : n ≤ hi
  rotate_left
  · have k1 : hi < n := by omega
    have d1 : decide (n ≤ hi) = false := decide_eq_false (by omega)
    rw [inR_gt k1]
    clear h1
    go_enter Try.func42, Try.ntmps42
    go_wp2
    go_ret
    exact ⟨rfl, rfl⟩
  rw [inR_mk h0 h1]
  have d1 : decide (n ≤ hi) = true := decide_eq_true (by omega)
  have d0 : decide (lo ≤ n) = true := decide_eq_true h0
  go_enter Try.func42, Try.ntmps42
  go_wp2
  go_ret
  exact ⟨rfl, rfl⟩
theorem iword_quiet {n : Int} {b : Bool} (h : inR n 0 65535 = b) (W : World) : Calls Try.prog 48 #[.int .i64 n] W fun e W' => e = .returned (.bool b) ∧ W' = W := by
  subst h
  by_cases h0 : 0 ≤ n
  rotate_left
  · have k0 : n < 0 := by omega
    have d0 : decide (0 ≤ n) = false := decide_eq_false h0
    rw [inR_lt k0]
    clear h0
    go_enter Try.func48, Try.ntmps48
    go_wp2
    go_ret
    exact ⟨rfl, rfl⟩
  by_cases h1 : n ≤ 65535
  rotate_left
  · have k1 : 65535 < n := by omega
    have d1 : decide (n ≤ 65535) = false := decide_eq_false (by omega)
    rw [inR_gt k1]
    clear h1
    go_enter Try.func48, Try.ntmps48
    go_wp2
    go_ret
    exact ⟨rfl, rfl⟩
  rw [inR_mk h0 h1]
  have d1 : decide (n ≤ 65535) = true := decide_eq_true (by omega)
  have d0 : decide (0 ≤ n) = true := decide_eq_true h0
  go_enter Try.func48, Try.ntmps48
  go_wp2
  go_ret
  exact ⟨rfl, rfl⟩
theorem word_quiet {n : Int} {b : Bool} (h : inR n 0 65535 = b) (W : World) : Calls Try.prog 50 #[.int .i64 n] W fun e W' => e = .returned (.bool b) ∧ W' = W := by
  go_enter Try.func50, Try.ntmps50
  go_wp2_with (go_at_call 59; refine (in_quiet h _).mono ?_; rintro e w' ⟨rfl, hw⟩; rw [hw]; clear hw w')
  go_ret
  exact ⟨rfl, rfl⟩
theorem local_quiet {n : Int} {b : Bool} (h : inR n 0 2 = b) (W : World) : Calls Try.prog 49 #[.int .i64 n] W fun e W' => e = .returned (.bool b) ∧ W' = W := by
  go_enter Try.func49, Try.ntmps49
  go_wp2_with (go_at_call 42; refine (btw_quiet h _).mono ?_; rintro e w' ⟨rfl, hw⟩; rw [hw]; clear hw w')
  go_ret
  exact ⟨rfl, rfl⟩
def offI (o : Int) : Int := if 1 ≤ o ∧ o ≤ 10 then offK o else 0
def onI (o : Int) : Int := if 1 ≤ o ∧ o ≤ 10 then onK o else 0
set_option maxHeartbeats 4000000 in
theorem spec_takes (o : Int) (W : World) : Calls Try.prog 47 #[.int .i64 o] W fun e W' => e = .returned (.tuple #[.int .i64 (offK o), .int .i64 (onK o)]) ∧ W' = W := by
  by_cases hin : 1 ≤ o ∧ o ≤ 10
  · rcases (show o = 1 ∨ o = 2 ∨ o = 3 ∨ o = 4 ∨ o = 5 ∨ o = 6 ∨ o = 7 ∨ o = 8 ∨ o = 9 ∨ o = 10 by omega) with rfl | rfl | rfl | rfl | rfl | rfl | rfl | rfl | rfl | rfl
    · show Calls _ _ _ _ fun e W' => e = .returned (.tuple #[.int .i64 0, .int .i64 1]) ∧ W' = W
      go_enter Try.func47, Try.ntmps47
      go_wp2
      go_ret2
      exact ⟨rfl, rfl⟩
    · show Calls _ _ _ _ fun e W' => e = .returned (.tuple #[.int .i64 0, .int .i64 1]) ∧ W' = W
      go_enter Try.func47, Try.ntmps47
      go_wp2
      go_ret2
      exact ⟨rfl, rfl⟩
    · show Calls _ _ _ _ fun e W' => e = .returned (.tuple #[.int .i64 1, .int .i64 0]) ∧ W' = W
      go_enter Try.func47, Try.ntmps47
      go_wp2
      go_ret2
      exact ⟨rfl, rfl⟩
    · show Calls _ _ _ _ fun e W' => e = .returned (.tuple #[.int .i64 2, .int .i64 1]) ∧ W' = W
      go_enter Try.func47, Try.ntmps47
      go_wp2
      go_ret2
      exact ⟨rfl, rfl⟩
    · show Calls _ _ _ _ fun e W' => e = .returned (.tuple #[.int .i64 2, .int .i64 1]) ∧ W' = W
      go_enter Try.func47, Try.ntmps47
      go_wp2
      go_ret2
      exact ⟨rfl, rfl⟩
    · show Calls _ _ _ _ fun e W' => e = .returned (.tuple #[.int .i64 2, .int .i64 1]) ∧ W' = W
      go_enter Try.func47, Try.ntmps47
      go_wp2
      go_ret2
      exact ⟨rfl, rfl⟩
    · show Calls _ _ _ _ fun e W' => e = .returned (.tuple #[.int .i64 2, .int .i64 1]) ∧ W' = W
      go_enter Try.func47, Try.ntmps47
      go_wp2
      go_ret2
      exact ⟨rfl, rfl⟩
    · show Calls _ _ _ _ fun e W' => e = .returned (.tuple #[.int .i64 1, .int .i64 2]) ∧ W' = W
      go_enter Try.func47, Try.ntmps47
      go_wp2
      go_ret2
      exact ⟨rfl, rfl⟩
    · show Calls _ _ _ _ fun e W' => e = .returned (.tuple #[.int .i64 1, .int .i64 0]) ∧ W' = W
      go_enter Try.func47, Try.ntmps47
      go_wp2
      go_ret2
      exact ⟨rfl, rfl⟩
    · show Calls _ _ _ _ fun e W' => e = .returned (.tuple #[.int .i64 1, .int .i64 0]) ∧ W' = W
      go_enter Try.func47, Try.ntmps47
      go_wp2
      go_ret2
      exact ⟨rfl, rfl⟩
  have hno : o ≠ 1 ∧ o ≠ 2 ∧ o ≠ 3 ∧ o ≠ 4 ∧ o ≠ 5 ∧ o ≠ 6 ∧ o ≠ 7 ∧ o ≠ 8 ∧ o ≠ 9 ∧ o ≠ 10 := by refine ⟨fun q => hin (by omega), fun q => hin (by omega), fun q => hin (by omega), fun q => hin (by omega), fun q => hin (by omega), fun q => hin (by omega), fun q => hin (by omega), fun q => hin (by omega), fun q => hin (by omega), fun q => hin (by omega)⟩
  obtain ⟨n1, n2, n3, n4, n5, n6, n7, n8, n9, n10⟩ := hno
  have e1 : (o == 1) = false := by simpa using n1
  have d1 : decide (o = 1) = false := decide_eq_false n1
  have e2 : (o == 2) = false := by simpa using n2
  have d2 : decide (o = 2) = false := decide_eq_false n2
  have e3 : (o == 3) = false := by simpa using n3
  have d3 : decide (o = 3) = false := decide_eq_false n3
  have e4 : (o == 4) = false := by simpa using n4
  have d4 : decide (o = 4) = false := decide_eq_false n4
  have e5 : (o == 5) = false := by simpa using n5
  have d5 : decide (o = 5) = false := decide_eq_false n5
  have e6 : (o == 6) = false := by simpa using n6
  have d6 : decide (o = 6) = false := decide_eq_false n6
  have e7 : (o == 7) = false := by simpa using n7
  have d7 : decide (o = 7) = false := decide_eq_false n7
  have e8 : (o == 8) = false := by simpa using n8
  have d8 : decide (o = 8) = false := decide_eq_false n8
  have e9 : (o == 9) = false := by simpa using n9
  have d9 : decide (o = 9) = false := decide_eq_false n9
  have e10 : (o == 10) = false := by simpa using n10
  have d10 : decide (o = 10) = false := decide_eq_false n10
  have E : offK o = 2 ∧ onK o = 1 := by unfold offK onK; simp only [n1, n2, n3, n8, n9, n10, or_self, if_false]; exact ⟨trivial, trivial⟩
  rw [E.1, E.2]
  clear E hin n1 n2 n3 n4 n5 n6 n7 n8 n9 n10
  go_enter Try.func47, Try.ntmps47
  go_wp2
  go_ret2
  exact ⟨rfl, rfl⟩
set_option maxHeartbeats 4000000 in
theorem impl_change (o : Int) (W : World) : Calls Try.prog 33 #[.int .i64 o] W fun e W' => e = .returned (.tuple #[.int .i64 (offI o), .int .i64 (onI o)]) ∧ W' = W := by
  by_cases hin : 1 ≤ o ∧ o ≤ 10
  · rcases (show o = 1 ∨ o = 2 ∨ o = 3 ∨ o = 4 ∨ o = 5 ∨ o = 6 ∨ o = 7 ∨ o = 8 ∨ o = 9 ∨ o = 10 by omega) with rfl | rfl | rfl | rfl | rfl | rfl | rfl | rfl | rfl | rfl
    · show Calls _ _ _ _ fun e W' => e = .returned (.tuple #[.int .i64 0, .int .i64 1]) ∧ W' = W
      go_enter Try.func33, Try.ntmps33
      go_wp2
      go_ret2
      exact ⟨rfl, rfl⟩
    · show Calls _ _ _ _ fun e W' => e = .returned (.tuple #[.int .i64 0, .int .i64 1]) ∧ W' = W
      go_enter Try.func33, Try.ntmps33
      go_wp2
      go_ret2
      exact ⟨rfl, rfl⟩
    · show Calls _ _ _ _ fun e W' => e = .returned (.tuple #[.int .i64 1, .int .i64 0]) ∧ W' = W
      go_enter Try.func33, Try.ntmps33
      go_wp2
      go_ret2
      exact ⟨rfl, rfl⟩
    · show Calls _ _ _ _ fun e W' => e = .returned (.tuple #[.int .i64 2, .int .i64 1]) ∧ W' = W
      go_enter Try.func33, Try.ntmps33
      go_wp2
      go_ret2
      exact ⟨rfl, rfl⟩
    · show Calls _ _ _ _ fun e W' => e = .returned (.tuple #[.int .i64 2, .int .i64 1]) ∧ W' = W
      go_enter Try.func33, Try.ntmps33
      go_wp2
      go_ret2
      exact ⟨rfl, rfl⟩
    · show Calls _ _ _ _ fun e W' => e = .returned (.tuple #[.int .i64 2, .int .i64 1]) ∧ W' = W
      go_enter Try.func33, Try.ntmps33
      go_wp2
      go_ret2
      exact ⟨rfl, rfl⟩
    · show Calls _ _ _ _ fun e W' => e = .returned (.tuple #[.int .i64 2, .int .i64 1]) ∧ W' = W
      go_enter Try.func33, Try.ntmps33
      go_wp2
      go_ret2
      exact ⟨rfl, rfl⟩
    · show Calls _ _ _ _ fun e W' => e = .returned (.tuple #[.int .i64 1, .int .i64 2]) ∧ W' = W
      go_enter Try.func33, Try.ntmps33
      go_wp2
      go_ret2
      exact ⟨rfl, rfl⟩
    · show Calls _ _ _ _ fun e W' => e = .returned (.tuple #[.int .i64 1, .int .i64 0]) ∧ W' = W
      go_enter Try.func33, Try.ntmps33
      go_wp2
      go_ret2
      exact ⟨rfl, rfl⟩
    · show Calls _ _ _ _ fun e W' => e = .returned (.tuple #[.int .i64 1, .int .i64 0]) ∧ W' = W
      go_enter Try.func33, Try.ntmps33
      go_wp2
      go_ret2
      exact ⟨rfl, rfl⟩
  have hno : o ≠ 1 ∧ o ≠ 2 ∧ o ≠ 3 ∧ o ≠ 4 ∧ o ≠ 5 ∧ o ≠ 6 ∧ o ≠ 7 ∧ o ≠ 8 ∧ o ≠ 9 ∧ o ≠ 10 := by refine ⟨fun q => hin (by omega), fun q => hin (by omega), fun q => hin (by omega), fun q => hin (by omega), fun q => hin (by omega), fun q => hin (by omega), fun q => hin (by omega), fun q => hin (by omega), fun q => hin (by omega), fun q => hin (by omega)⟩
  obtain ⟨n1, n2, n3, n4, n5, n6, n7, n8, n9, n10⟩ := hno
  have e1 : (o == 1) = false := by simpa using n1
  have d1 : decide (o = 1) = false := decide_eq_false n1
  have e2 : (o == 2) = false := by simpa using n2
  have d2 : decide (o = 2) = false := decide_eq_false n2
  have e3 : (o == 3) = false := by simpa using n3
  have d3 : decide (o = 3) = false := decide_eq_false n3
  have e4 : (o == 4) = false := by simpa using n4
  have d4 : decide (o = 4) = false := decide_eq_false n4
  have e5 : (o == 5) = false := by simpa using n5
  have d5 : decide (o = 5) = false := decide_eq_false n5
  have e6 : (o == 6) = false := by simpa using n6
  have d6 : decide (o = 6) = false := decide_eq_false n6
  have e7 : (o == 7) = false := by simpa using n7
  have d7 : decide (o = 7) = false := decide_eq_false n7
  have e8 : (o == 8) = false := by simpa using n8
  have d8 : decide (o = 8) = false := decide_eq_false n8
  have e9 : (o == 9) = false := by simpa using n9
  have d9 : decide (o = 9) = false := decide_eq_false n9
  have e10 : (o == 10) = false := by simpa using n10
  have d10 : decide (o = 10) = false := decide_eq_false n10
  rw [show offI o = 0 from if_neg hin, show onI o = 0 from if_neg hin]
  clear hin n1 n2 n3 n4 n5 n6 n7 n8 n9 n10
  go_enter Try.func33, Try.ntmps33
  go_wp2
  go_ret2
  exact ⟨rfl, rfl⟩
set_option maxHeartbeats 4000000 in
theorem spec_sstep (o n : Int) (W : World) : Calls Try.prog 46 #[.agg #[.int .i64 o, .int .i64 n]] W fun e W' => e = .returned (.bool (okS o n)) ∧ Below W.heap.size W W' := by
  have HN : (n == 0) = true ∨ (n == 0) = false := by cases n == 0 <;> simp
  by_cases hin : 1 ≤ o ∧ o ≤ 10
  · rcases (show o = 1 ∨ o = 2 ∨ o = 3 ∨ o = 4 ∨ o = 5 ∨ o = 6 ∨ o = 7 ∨ o = 8 ∨ o = 9 ∨ o = 10 by omega) with rfl | rfl | rfl | rfl | rfl | rfl | rfl | rfl | rfl | rfl
    · cases hb : inR n 0 65535 <;> (rw [show okS 1 n = _ from hb]; go_enter Try.func46, Try.ntmps46; go_wp2_with (go_at_call 50; refine (word_quiet hb _).mono ?_; rintro e w' ⟨rfl, hw⟩; rw [hw]; clear hw w'); go_ret; exact ⟨rfl, by go_grown⟩)
    · cases hb : inR n 0 2 <;> (rw [show okS 2 n = _ from hb]; go_enter Try.func46, Try.ntmps46; go_wp2_with (go_at_call 59; refine (in_quiet hb _).mono ?_; rintro e w' ⟨rfl, hw⟩; rw [hw]; clear hw w'); go_ret; exact ⟨rfl, by go_grown⟩)
    · cases hb : inR n 0 2 <;> (rw [show okS 3 n = _ from hb]; go_enter Try.func46, Try.ntmps46; go_wp2_with (go_at_call 59; refine (in_quiet hb _).mono ?_; rintro e w' ⟨rfl, hw⟩; rw [hw]; clear hw w'); go_ret; exact ⟨rfl, by go_grown⟩)
    · have hb : inR (4 : Int) 4 10 = true := by decide
      by_cases n0 : n = 0
      · subst n0
        rw [show okS 4 0 = true by decide]
        go_enter Try.func46, Try.ntmps46
        go_wp2_with (go_at_call 59; refine (in_quiet hb _).mono ?_; rintro e w' ⟨rfl, hw⟩; rw [hw]; clear hw w')
        go_ret
        exact ⟨rfl, by go_grown⟩
      · have q1 : (n == 0) = false := by simpa using n0
        have q2 : decide (n = 0) = false := decide_eq_false n0
        rw [show okS 4 n = false by show (inR (4 : Int) 4 10 && n == 0) = false; rw [q1, Bool.and_false]]
        clear n0 HN
        go_enter Try.func46, Try.ntmps46
        go_wp2_with (go_at_call 59; refine (in_quiet hb _).mono ?_; rintro e w' ⟨rfl, hw⟩; rw [hw]; clear hw w')
        go_ret
        exact ⟨rfl, by go_grown⟩
    · have hb : inR (5 : Int) 4 10 = true := by decide
      by_cases n0 : n = 0
      · subst n0
        rw [show okS 5 0 = true by decide]
        go_enter Try.func46, Try.ntmps46
        go_wp2_with (go_at_call 59; refine (in_quiet hb _).mono ?_; rintro e w' ⟨rfl, hw⟩; rw [hw]; clear hw w')
        go_ret
        exact ⟨rfl, by go_grown⟩
      · have q1 : (n == 0) = false := by simpa using n0
        have q2 : decide (n = 0) = false := decide_eq_false n0
        rw [show okS 5 n = false by show (inR (5 : Int) 4 10 && n == 0) = false; rw [q1, Bool.and_false]]
        clear n0 HN
        go_enter Try.func46, Try.ntmps46
        go_wp2_with (go_at_call 59; refine (in_quiet hb _).mono ?_; rintro e w' ⟨rfl, hw⟩; rw [hw]; clear hw w')
        go_ret
        exact ⟨rfl, by go_grown⟩
    · have hb : inR (6 : Int) 4 10 = true := by decide
      by_cases n0 : n = 0
      · subst n0
        rw [show okS 6 0 = true by decide]
        go_enter Try.func46, Try.ntmps46
        go_wp2_with (go_at_call 59; refine (in_quiet hb _).mono ?_; rintro e w' ⟨rfl, hw⟩; rw [hw]; clear hw w')
        go_ret
        exact ⟨rfl, by go_grown⟩
      · have q1 : (n == 0) = false := by simpa using n0
        have q2 : decide (n = 0) = false := decide_eq_false n0
        rw [show okS 6 n = false by show (inR (6 : Int) 4 10 && n == 0) = false; rw [q1, Bool.and_false]]
        clear n0 HN
        go_enter Try.func46, Try.ntmps46
        go_wp2_with (go_at_call 59; refine (in_quiet hb _).mono ?_; rintro e w' ⟨rfl, hw⟩; rw [hw]; clear hw w')
        go_ret
        exact ⟨rfl, by go_grown⟩
    · have hb : inR (7 : Int) 4 10 = true := by decide
      by_cases n0 : n = 0
      · subst n0
        rw [show okS 7 0 = true by decide]
        go_enter Try.func46, Try.ntmps46
        go_wp2_with (go_at_call 59; refine (in_quiet hb _).mono ?_; rintro e w' ⟨rfl, hw⟩; rw [hw]; clear hw w')
        go_ret
        exact ⟨rfl, by go_grown⟩
      · have q1 : (n == 0) = false := by simpa using n0
        have q2 : decide (n = 0) = false := decide_eq_false n0
        rw [show okS 7 n = false by show (inR (7 : Int) 4 10 && n == 0) = false; rw [q1, Bool.and_false]]
        clear n0 HN
        go_enter Try.func46, Try.ntmps46
        go_wp2_with (go_at_call 59; refine (in_quiet hb _).mono ?_; rintro e w' ⟨rfl, hw⟩; rw [hw]; clear hw w')
        go_ret
        exact ⟨rfl, by go_grown⟩
    · have hb : inR (8 : Int) 4 10 = true := by decide
      by_cases n0 : n = 0
      · subst n0
        rw [show okS 8 0 = true by decide]
        go_enter Try.func46, Try.ntmps46
        go_wp2_with (go_at_call 59; refine (in_quiet hb _).mono ?_; rintro e w' ⟨rfl, hw⟩; rw [hw]; clear hw w')
        go_ret
        exact ⟨rfl, by go_grown⟩
      · have q1 : (n == 0) = false := by simpa using n0
        have q2 : decide (n = 0) = false := decide_eq_false n0
        rw [show okS 8 n = false by show (inR (8 : Int) 4 10 && n == 0) = false; rw [q1, Bool.and_false]]
        clear n0 HN
        go_enter Try.func46, Try.ntmps46
        go_wp2_with (go_at_call 59; refine (in_quiet hb _).mono ?_; rintro e w' ⟨rfl, hw⟩; rw [hw]; clear hw w')
        go_ret
        exact ⟨rfl, by go_grown⟩
    · have hb : inR (9 : Int) 4 10 = true := by decide
      by_cases n0 : n = 0
      · subst n0
        rw [show okS 9 0 = true by decide]
        go_enter Try.func46, Try.ntmps46
        go_wp2_with (go_at_call 59; refine (in_quiet hb _).mono ?_; rintro e w' ⟨rfl, hw⟩; rw [hw]; clear hw w')
        go_ret
        exact ⟨rfl, by go_grown⟩
      · have q1 : (n == 0) = false := by simpa using n0
        have q2 : decide (n = 0) = false := decide_eq_false n0
        rw [show okS 9 n = false by show (inR (9 : Int) 4 10 && n == 0) = false; rw [q1, Bool.and_false]]
        clear n0 HN
        go_enter Try.func46, Try.ntmps46
        go_wp2_with (go_at_call 59; refine (in_quiet hb _).mono ?_; rintro e w' ⟨rfl, hw⟩; rw [hw]; clear hw w')
        go_ret
        exact ⟨rfl, by go_grown⟩
    · have hb : inR (10 : Int) 4 10 = true := by decide
      by_cases n0 : n = 0
      · subst n0
        rw [show okS 10 0 = true by decide]
        go_enter Try.func46, Try.ntmps46
        go_wp2_with (go_at_call 59; refine (in_quiet hb _).mono ?_; rintro e w' ⟨rfl, hw⟩; rw [hw]; clear hw w')
        go_ret
        exact ⟨rfl, by go_grown⟩
      · have q1 : (n == 0) = false := by simpa using n0
        have q2 : decide (n = 0) = false := decide_eq_false n0
        rw [show okS 10 n = false by show (inR (10 : Int) 4 10 && n == 0) = false; rw [q1, Bool.and_false]]
        clear n0 HN
        go_enter Try.func46, Try.ntmps46
        go_wp2_with (go_at_call 59; refine (in_quiet hb _).mono ?_; rintro e w' ⟨rfl, hw⟩; rw [hw]; clear hw w')
        go_ret
        exact ⟨rfl, by go_grown⟩
  have hno : o ≠ 1 ∧ o ≠ 2 ∧ o ≠ 3 ∧ o ≠ 4 ∧ o ≠ 5 ∧ o ≠ 6 ∧ o ≠ 7 ∧ o ≠ 8 ∧ o ≠ 9 ∧ o ≠ 10 := by refine ⟨fun q => hin (by omega), fun q => hin (by omega), fun q => hin (by omega), fun q => hin (by omega), fun q => hin (by omega), fun q => hin (by omega), fun q => hin (by omega), fun q => hin (by omega), fun q => hin (by omega), fun q => hin (by omega)⟩
  obtain ⟨n1, n2, n3, n4, n5, n6, n7, n8, n9, n10⟩ := hno
  have e1 : (o == 1) = false := by simpa using n1
  have d1 : decide (o = 1) = false := decide_eq_false n1
  have e2 : (o == 2) = false := by simpa using n2
  have d2 : decide (o = 2) = false := decide_eq_false n2
  have e3 : (o == 3) = false := by simpa using n3
  have d3 : decide (o = 3) = false := decide_eq_false n3
  have e4 : (o == 4) = false := by simpa using n4
  have d4 : decide (o = 4) = false := decide_eq_false n4
  have e5 : (o == 5) = false := by simpa using n5
  have d5 : decide (o = 5) = false := decide_eq_false n5
  have e6 : (o == 6) = false := by simpa using n6
  have d6 : decide (o = 6) = false := decide_eq_false n6
  have e7 : (o == 7) = false := by simpa using n7
  have d7 : decide (o = 7) = false := decide_eq_false n7
  have e8 : (o == 8) = false := by simpa using n8
  have d8 : decide (o = 8) = false := decide_eq_false n8
  have e9 : (o == 9) = false := by simpa using n9
  have d9 : decide (o = 9) = false := decide_eq_false n9
  have e10 : (o == 10) = false := by simpa using n10
  have d10 : decide (o = 10) = false := decide_eq_false n10
  have hb : inR o 4 10 = false := by rcases (show o < 4 ∨ 10 < o by omega) with q | q; exact inR_lt q; exact inR_gt q
  have E : okS o n = false := by unfold okS; rw [if_neg n1, if_neg (by rintro (q | q) <;> contradiction), hb]; rfl
  rw [E]
  clear E hin HN n1 n2 n3 n4 n5 n6 n7 n8 n9 n10
  go_enter Try.func46, Try.ntmps46
  go_wp2_with (go_at_call 59; refine (in_quiet hb _).mono ?_; rintro e w' ⟨rfl, hw⟩; rw [hw]; clear hw w')
  go_ret
  exact ⟨rfl, by go_grown⟩
set_option maxHeartbeats 4000000 in
theorem impl_sstep (o n : Int) (W : World) : Calls Try.prog 34 #[.agg #[.int .i64 o, .int .i64 n]] W fun e W' => e = .returned (.bool (okS o n)) ∧ Below W.heap.size W W' := by
  have HN : (n == 0) = true ∨ (n == 0) = false := by cases n == 0 <;> simp
  by_cases hin : 1 ≤ o ∧ o ≤ 10
  · rcases (show o = 1 ∨ o = 2 ∨ o = 3 ∨ o = 4 ∨ o = 5 ∨ o = 6 ∨ o = 7 ∨ o = 8 ∨ o = 9 ∨ o = 10 by omega) with rfl | rfl | rfl | rfl | rfl | rfl | rfl | rfl | rfl | rfl
    · cases hb : inR n 0 65535 <;> (rw [show okS 1 n = _ from hb]; go_enter Try.func34, Try.ntmps34; go_wp2_with (go_at_call 48; refine (iword_quiet hb _).mono ?_; rintro e w' ⟨rfl, hw⟩; rw [hw]; clear hw w'); go_ret; exact ⟨rfl, by go_grown⟩)
    · cases hb : inR n 0 2 <;> (rw [show okS 2 n = _ from hb]; go_enter Try.func34, Try.ntmps34; go_wp2_with (go_at_call 49; refine (local_quiet hb _).mono ?_; rintro e w' ⟨rfl, hw⟩; rw [hw]; clear hw w'); go_ret; exact ⟨rfl, by go_grown⟩)
    · cases hb : inR n 0 2 <;> (rw [show okS 3 n = _ from hb]; go_enter Try.func34, Try.ntmps34; go_wp2_with (go_at_call 49; refine (local_quiet hb _).mono ?_; rintro e w' ⟨rfl, hw⟩; rw [hw]; clear hw w'); go_ret; exact ⟨rfl, by go_grown⟩)
    · by_cases n0 : n = 0
      · subst n0
        rw [show okS 4 0 = true by decide]
        go_enter Try.func34, Try.ntmps34
        go_wp2
        go_ret
        exact ⟨rfl, by go_grown⟩
      · have q1 : (n == 0) = false := by simpa using n0
        have q2 : decide (n = 0) = false := decide_eq_false n0
        rw [show okS 4 n = false by show (inR (4 : Int) 4 10 && n == 0) = false; rw [q1, Bool.and_false]]
        clear n0 HN
        go_enter Try.func34, Try.ntmps34
        go_wp2
        go_ret
        exact ⟨rfl, by go_grown⟩
    · by_cases n0 : n = 0
      · subst n0
        rw [show okS 5 0 = true by decide]
        go_enter Try.func34, Try.ntmps34
        go_wp2
        go_ret
        exact ⟨rfl, by go_grown⟩
      · have q1 : (n == 0) = false := by simpa using n0
        have q2 : decide (n = 0) = false := decide_eq_false n0
        rw [show okS 5 n = false by show (inR (5 : Int) 4 10 && n == 0) = false; rw [q1, Bool.and_false]]
        clear n0 HN
        go_enter Try.func34, Try.ntmps34
        go_wp2
        go_ret
        exact ⟨rfl, by go_grown⟩
    · by_cases n0 : n = 0
      · subst n0
        rw [show okS 6 0 = true by decide]
        go_enter Try.func34, Try.ntmps34
        go_wp2
        go_ret
        exact ⟨rfl, by go_grown⟩
      · have q1 : (n == 0) = false := by simpa using n0
        have q2 : decide (n = 0) = false := decide_eq_false n0
        rw [show okS 6 n = false by show (inR (6 : Int) 4 10 && n == 0) = false; rw [q1, Bool.and_false]]
        clear n0 HN
        go_enter Try.func34, Try.ntmps34
        go_wp2
        go_ret
        exact ⟨rfl, by go_grown⟩
    · by_cases n0 : n = 0
      · subst n0
        rw [show okS 7 0 = true by decide]
        go_enter Try.func34, Try.ntmps34
        go_wp2
        go_ret
        exact ⟨rfl, by go_grown⟩
      · have q1 : (n == 0) = false := by simpa using n0
        have q2 : decide (n = 0) = false := decide_eq_false n0
        rw [show okS 7 n = false by show (inR (7 : Int) 4 10 && n == 0) = false; rw [q1, Bool.and_false]]
        clear n0 HN
        go_enter Try.func34, Try.ntmps34
        go_wp2
        go_ret
        exact ⟨rfl, by go_grown⟩
    · by_cases n0 : n = 0
      · subst n0
        rw [show okS 8 0 = true by decide]
        go_enter Try.func34, Try.ntmps34
        go_wp2
        go_ret
        exact ⟨rfl, by go_grown⟩
      · have q1 : (n == 0) = false := by simpa using n0
        have q2 : decide (n = 0) = false := decide_eq_false n0
        rw [show okS 8 n = false by show (inR (8 : Int) 4 10 && n == 0) = false; rw [q1, Bool.and_false]]
        clear n0 HN
        go_enter Try.func34, Try.ntmps34
        go_wp2
        go_ret
        exact ⟨rfl, by go_grown⟩
    · by_cases n0 : n = 0
      · subst n0
        rw [show okS 9 0 = true by decide]
        go_enter Try.func34, Try.ntmps34
        go_wp2
        go_ret
        exact ⟨rfl, by go_grown⟩
      · have q1 : (n == 0) = false := by simpa using n0
        have q2 : decide (n = 0) = false := decide_eq_false n0
        rw [show okS 9 n = false by show (inR (9 : Int) 4 10 && n == 0) = false; rw [q1, Bool.and_false]]
        clear n0 HN
        go_enter Try.func34, Try.ntmps34
        go_wp2
        go_ret
        exact ⟨rfl, by go_grown⟩
    · by_cases n0 : n = 0
      · subst n0
        rw [show okS 10 0 = true by decide]
        go_enter Try.func34, Try.ntmps34
        go_wp2
        go_ret
        exact ⟨rfl, by go_grown⟩
      · have q1 : (n == 0) = false := by simpa using n0
        have q2 : decide (n = 0) = false := decide_eq_false n0
        rw [show okS 10 n = false by show (inR (10 : Int) 4 10 && n == 0) = false; rw [q1, Bool.and_false]]
        clear n0 HN
        go_enter Try.func34, Try.ntmps34
        go_wp2
        go_ret
        exact ⟨rfl, by go_grown⟩
  have hno : o ≠ 1 ∧ o ≠ 2 ∧ o ≠ 3 ∧ o ≠ 4 ∧ o ≠ 5 ∧ o ≠ 6 ∧ o ≠ 7 ∧ o ≠ 8 ∧ o ≠ 9 ∧ o ≠ 10 := by refine ⟨fun q => hin (by omega), fun q => hin (by omega), fun q => hin (by omega), fun q => hin (by omega), fun q => hin (by omega), fun q => hin (by omega), fun q => hin (by omega), fun q => hin (by omega), fun q => hin (by omega), fun q => hin (by omega)⟩
  obtain ⟨n1, n2, n3, n4, n5, n6, n7, n8, n9, n10⟩ := hno
  have e1 : (o == 1) = false := by simpa using n1
  have d1 : decide (o = 1) = false := decide_eq_false n1
  have e2 : (o == 2) = false := by simpa using n2
  have d2 : decide (o = 2) = false := decide_eq_false n2
  have e3 : (o == 3) = false := by simpa using n3
  have d3 : decide (o = 3) = false := decide_eq_false n3
  have e4 : (o == 4) = false := by simpa using n4
  have d4 : decide (o = 4) = false := decide_eq_false n4
  have e5 : (o == 5) = false := by simpa using n5
  have d5 : decide (o = 5) = false := decide_eq_false n5
  have e6 : (o == 6) = false := by simpa using n6
  have d6 : decide (o = 6) = false := decide_eq_false n6
  have e7 : (o == 7) = false := by simpa using n7
  have d7 : decide (o = 7) = false := decide_eq_false n7
  have e8 : (o == 8) = false := by simpa using n8
  have d8 : decide (o = 8) = false := decide_eq_false n8
  have e9 : (o == 9) = false := by simpa using n9
  have d9 : decide (o = 9) = false := decide_eq_false n9
  have e10 : (o == 10) = false := by simpa using n10
  have d10 : decide (o = 10) = false := decide_eq_false n10
  have hb : inR o 4 10 = false := by rcases (show o < 4 ∨ 10 < o by omega) with q | q; exact inR_lt q; exact inR_gt q
  have E : okS o n = false := by unfold okS; rw [if_neg n1, if_neg (by rintro (q | q) <;> contradiction), hb]; rfl
  rw [E]
  clear E hin HN n1 n2 n3 n4 n5 n6 n7 n8 n9 n10
  go_enter Try.func34, Try.ntmps34
  go_wp2
  go_ret
  exact ⟨rfl, by go_grown⟩
end Go.Proofs.Ytdacpbhdemkacaa.walks

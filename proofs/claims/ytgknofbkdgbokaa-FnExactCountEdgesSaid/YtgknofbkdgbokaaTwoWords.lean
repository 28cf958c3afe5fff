/-
  What a step of two words comes to: the specification's l3Do, the program's pairWord.
-/
import Derived.Test.YtgknofbkdgbokaaProg
import Derived.Test.YtgknofbkdgbokaaMath
import Derived.Test.YtgknofbkdgbokaaMagMath
import Derived.Test.YtgknofbkdgbokaaCodeMath
import Derived.Test.YtgknofbkdgbokaaRunMath
import Derived.Lib.SmallJoins
import Derived.WalkKit
import Derived.WalkSpells
import Derived.Below
import Derived.Handy
namespace Go.Proofs.Ytgknofbkdgbokaa.walks
open Go.RowKit Go.Proofs.Ytgknofbkdgbokaa.math
set_option linter.unusedVariables false

set_option maxHeartbeats 1000000 in
theorem spec_do2 (op a b : Int) (W : World) (h3 : 3 ≤ op) (h7 : op ≤ 7) (a0 : 0 ≤ a) (a1 : a ≤ 65535) (b0 : 0 ≤ b) (b1 : b ≤ 65535) :
    Calls Try.prog 63 #[.int .i64 op, .int .i64 a, .int .i64 b] W fun e W' => e = .returned (.int .i64 (doV op a b)) ∧ W' = W := by
  obtain ⟨m0, m1⟩ := mul_word a0 a1 b0 b1
  rcases (show op = 3 ∨ op = 4 ∨ op = 5 ∨ op = 6 ∨ op = 7 by omega) with rfl | rfl | rfl | rfl | rfl
  · have hw := and_word (a + b)
    go_enter Try.func63, Try.ntmps63
    go_wp2
    go_ret
    exact ⟨rfl, rfl⟩
  · have hw := and_word (a - b)
    go_enter Try.func63, Try.ntmps63
    go_wp2
    go_ret
    exact ⟨rfl, rfl⟩
  · have hw := and_word (a * b)
    go_enter Try.func63, Try.ntmps63
    go_wp2
    go_ret
    exact ⟨rfl, rfl⟩
  · by_cases h : a < b
    · rw [show doV 6 a b = 1 from if_pos h]
      go_enter Try.func63, Try.ntmps63
      go_wp2
      go_ret
      exact ⟨rfl, rfl⟩
    · rw [show doV 6 a b = 0 from if_neg h]
      have h' : b ≤ a := by omega
      clear h
      go_enter Try.func63, Try.ntmps63
      go_wp2
      go_ret
      exact ⟨rfl, rfl⟩
  · by_cases h : a = b
    · rw [show doV 7 a b = 1 from if_pos h]
      subst h
      go_enter Try.func63, Try.ntmps63
      go_wp2
      go_ret
      exact ⟨rfl, rfl⟩
    · rw [show doV 7 a b = 0 from if_neg h]
      have h' : (a == b) = false := by simpa using h
      have h2 : decide (a = b) = false := decide_eq_false h
      go_enter Try.func63, Try.ntmps63
      go_wp2
      go_ret
      exact ⟨rfl, rfl⟩
theorem impl_one (p : Bool) (W : World) : Calls Try.prog 77 #[.bool p] W fun e W' => e = .returned (.int .i64 (if p then 1 else 0)) ∧ W' = W := by
  cases p
  · go_enter Try.func77, Try.ntmps77
    go_wp2
    go_ret
    exact ⟨rfl, rfl⟩
  · go_enter Try.func77, Try.ntmps77
    go_wp2
    go_ret
    exact ⟨rfl, rfl⟩
theorem impl_pair (op a b : Int) (W : World) (h3 : 3 ≤ op) (h7 : op ≤ 7) (a0 : 0 ≤ a) (a1 : a ≤ 65535) (b0 : 0 ≤ b) (b1 : b ≤ 65535) :
    Calls Try.prog 76 #[.int .i64 op, .int .i64 a, .int .i64 b] W fun e W' => e = .returned (.int .i64 (doV op a b)) ∧ W' = W := by
  obtain ⟨m0, m1⟩ := mul_word a0 a1 b0 b1
  rcases (show op = 3 ∨ op = 4 ∨ op = 5 ∨ op = 6 ∨ op = 7 by omega) with rfl | rfl | rfl | rfl | rfl
  · have hw := and_word (a + b)
    go_enter Try.func76, Try.ntmps76
    go_wp2
    go_ret
    exact ⟨rfl, rfl⟩
  · have hw := and_word (a - b)
    go_enter Try.func76, Try.ntmps76
    go_wp2
    go_ret
    exact ⟨rfl, rfl⟩
  · have hw := and_word (a * b)
    go_enter Try.func76, Try.ntmps76
    go_wp2
    go_ret
    exact ⟨rfl, rfl⟩
  · by_cases h : a < b
    · rw [show doV 6 a b = 1 from if_pos h]
      go_enter Try.func76, Try.ntmps76
      go_wp2_with (go_at_call 77; refine (impl_one _ _).mono ?_; rintro e w' ⟨rfl, rfl⟩)
      go_ret
      exact ⟨rfl, rfl⟩
    · rw [show doV 6 a b = 0 from if_neg h]
      have h' : b ≤ a := by omega
      clear h
      go_enter Try.func76, Try.ntmps76
      go_wp2_with (go_at_call 77; refine (impl_one _ _).mono ?_; rintro e w' ⟨rfl, rfl⟩)
      go_ret
      exact ⟨rfl, rfl⟩
  · by_cases h : a = b
    · rw [show doV 7 a b = 1 from if_pos h]
      subst h
      go_enter Try.func76, Try.ntmps76
      go_wp2_with (go_at_call 77; refine (impl_one _ _).mono ?_; rintro e w' ⟨rfl, rfl⟩)
      go_ret
      exact ⟨rfl, rfl⟩
    · rw [show doV 7 a b = 0 from if_neg h]
      have h' : (a == b) = false := by simpa using h
      have h2 : decide (a = b) = false := decide_eq_false h
      go_enter Try.func76, Try.ntmps76
      go_wp2_with (go_at_call 77; refine (impl_one _ _).mono ?_; rintro e w' ⟨rfl, rfl⟩)
      go_ret
      exact ⟨rfl, rfl⟩

end Go.Proofs.Ytgknofbkdgbokaa.walks

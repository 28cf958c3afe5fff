/-
  What the specification's l12State and GoodCache answer.
-/
import Derived.Test.YticgipmaflhplaaProg
import Derived.Test.YticgipmaflhplaaCacheMath
import Derived.Test.YticgipmaflhplaaWorldSpec
import Derived.WalkKit
import Derived.WalkSpells
import Derived.Below
import Derived.Handy
import Derived.Deep.DeepFit
import Derived.Deep.RegionWith
import Derived.Deep.RegionHeld3
namespace Go.Proofs.Yticgipmaflhplaa.walks
open Go.RowKit Go.Proofs.Yticgipmaflhplaa.math Go.Proofs.Yticgipmaflhplaa.ints Go.Proofs.Yticgipmaflhplaa.deep
set_option linter.unusedVariables false
set_option maxRecDepth 100000

set_option maxHeartbeats 1000000 in
theorem state_quiet {s : Int} {l : Nat} {b : Bool} (h : stateB s l = b) (hl : l ≤ 1048576) (W : World) : Calls Try.prog 76 #[.int .i64 s, .int .i64 (l : Int)] W fun e W' => e = .returned (.bool b) ∧ W' = W := by
  subst h
  by_cases s0 : s = 0
  · subst s0
    have e : stateB 0 l = decide ((l : Int) = 0) := by unfold stateB; rw [if_pos (Or.inl rfl)]; by_cases q : l = 0 <;> simp [q]
    rw [e]
    by_cases q : (l : Int) = 0
    · obtain rfl : l = 0 := by omega
      go_enter Try.func76, Try.ntmps76
      go_wp2
      go_ret
      exact ⟨rfl, rfl⟩
    · have HD : Hid (decide ((l : Int) = 0) = false) := decide_eq_false q
      have q1 : ((l : Int) == 0) = false := by simpa using q
      have q2 : decide ((l : Int) = 0) = false := decide_eq_false q
      have q3 : decide (l = 0) = false := decide_eq_false (by omega)
      have q4 : (l == 0) = false := by simp; omega
      go_enter Try.func76, Try.ntmps76
      go_wp2
      go_ret
      exact ⟨by rw [HD.out]; rfl, rfl⟩
  have a0 : (s == 0) = false := by simpa using s0
  have a1 : decide (s = 0) = false := decide_eq_false s0
  by_cases s3 : s = 3
  · subst s3
    have e : stateB 3 l = decide ((l : Int) = 0) := by unfold stateB; rw [if_pos (Or.inr rfl)]; by_cases q : l = 0 <;> simp [q]
    rw [e]
    by_cases q : (l : Int) = 0
    · obtain rfl : l = 0 := by omega
      go_enter Try.func76, Try.ntmps76
      go_wp2
      go_ret
      exact ⟨rfl, rfl⟩
    · have HD : Hid (decide ((l : Int) = 0) = false) := decide_eq_false q
      have q1 : ((l : Int) == 0) = false := by simpa using q
      have q2 : decide ((l : Int) = 0) = false := decide_eq_false q
      have q3 : decide (l = 0) = false := decide_eq_false (by omega)
      have q4 : (l == 0) = false := by simp; omega
      go_enter Try.func76, Try.ntmps76
      go_wp2
      go_ret
      exact ⟨by rw [HD.out]; rfl, rfl⟩
  have b0 : (s == 3) = false := by simpa using s3
  have b1 : decide (s = 3) = false := decide_eq_false s3
  by_cases s1 : s = 1
  · subst s1
    have e : stateB 1 l = decide ((l : Int) = 1) := by unfold stateB; rw [if_neg (by omega), if_pos rfl]; by_cases q : l = 1 <;> simp [q]; omega
    rw [e]
    by_cases q : (l : Int) = 1
    · obtain rfl : l = 1 := by omega
      go_enter Try.func76, Try.ntmps76
      go_wp2
      go_ret
      exact ⟨rfl, rfl⟩
    · have HD : Hid (decide ((l : Int) = 1) = false) := decide_eq_false q
      have q1 : ((l : Int) == 1) = false := by simpa using q
      have q2 : decide ((l : Int) = 1) = false := decide_eq_false q
      have q3 : decide (l = 1) = false := decide_eq_false (by omega)
      have q4 : (l == 1) = false := by simp; omega
      go_enter Try.func76, Try.ntmps76
      go_wp2
      go_ret
      exact ⟨by rw [HD.out]; rfl, rfl⟩
  have c0 : (s == 1) = false := by simpa using s1
  have c1 : decide (s = 1) = false := decide_eq_false s1
  have e : stateB s l = (decide (s = 2) && inR (l : Int) 2 4) := by unfold stateB; rw [if_neg (by omega), if_neg s1]
  obtain ⟨R, HR⟩ : ∃ R, Hid (stateB s l = R) := ⟨_, rfl⟩
  rw [HR.out] at e ⊢
  by_cases s2 : s = 2
  · subst s2
    cases hi : inR (l : Int) 2 4
    · have HE : Hid (R = false) := by show _ = _; rw [e, hi]; rfl
      clear e
      go_enter Try.func76, Try.ntmps76
      go_wp2_with (go_at_call 34; refine (in_quiet hi _).mono ?_; rintro e w' ⟨rfl, hw⟩; rw [hw]; clear hw w')
      go_ret
      exact ⟨by rw [HE.out]; rfl, rfl⟩
    · have HE : Hid (R = true) := by show _ = _; rw [e, hi]; rfl
      clear e
      go_enter Try.func76, Try.ntmps76
      go_wp2_with (go_at_call 34; refine (in_quiet hi _).mono ?_; rintro e w' ⟨rfl, hw⟩; rw [hw]; clear hw w')
      go_ret
      exact ⟨by rw [HE.out]; rfl, rfl⟩
  · have e0 : (s == 2) = false := by simpa using s2
    have e1 : decide (s = 2) = false := decide_eq_false s2
    have HE : Hid (R = false) := by show _ = _; rw [e, e1]; rfl
    clear e
    go_enter Try.func76, Try.ntmps76
    go_wp2
    go_ret
    exact ⟨by rw [HE.out]; rfl, rfl⟩
end Go.Proofs.Yticgipmaflhplaa.walks

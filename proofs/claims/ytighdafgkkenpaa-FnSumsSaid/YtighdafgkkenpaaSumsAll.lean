/-
  What the sums on words of chapter 1 answer, of the program and of the specification, at every two ints.
-/
import Derived.Test.YtighdafgkkenpaaWalks
namespace Go.Proofs.Ytighdafgkkenpaa.sums
open Go.RowKit Go.Proofs.Ytighdafgkkenpaa.math Go.Proofs.Ytighdafgkkenpaa.walks

theorem spec_AddTagged_no0 (a0 a1 : Int) (sa : smallB a0 = false) (W : World) :
    Calls Try.prog 6 #[.int .i64 a0, .int .i64 a1] W fun e W' => e = .returned (.tuple #[.int .i64 0, .bool false, .bool false]) ∧ W' = W := by
  go_enter Try.func6, Try.ntmps6
  go_wp2_with (first | (go_at_call 18; refine (spec_two _ _ _).mono ?_; rintro e w' ⟨rfl, rfl⟩))
  go_ret3
  exact ⟨rfl, rfl⟩

theorem spec_AddTagged_no1 (a0 a1 : Int) (sa : smallB a0 = true) (sb : smallB a1 = false) (W : World) :
    Calls Try.prog 6 #[.int .i64 a0, .int .i64 a1] W fun e W' => e = .returned (.tuple #[.int .i64 0, .bool false, .bool false]) ∧ W' = W := by
  go_enter Try.func6, Try.ntmps6
  go_wp2_with (first | (go_at_call 18; refine (spec_two _ _ _).mono ?_; rintro e w' ⟨rfl, rfl⟩))
  go_ret3
  exact ⟨rfl, rfl⟩

theorem spec_AddTagged_yes (a0 a1 : Int) (sa : smallB a0 = true) (sb : smallB a1 = true) (W : World) :
    Calls Try.prog 6 #[.int .i64 a0, .int .i64 a1] W fun e W' => e = .returned (.tuple #[.int .i64 (tagW (unt a0 + unt a1)), .bool (inB (unt a0 + unt a1)), .bool true]) ∧ W' = W := by
  obtain ⟨la, ua, _⟩ := smallB_out sa
  obtain ⟨lb, ub, _⟩ := smallB_out sb
  obtain ⟨fa, xa, ya⟩ := small_form sa
  obtain ⟨fb, xb, yb⟩ := small_form sb
  have pa : -32767 ≤ sgn a0 := by omega
  have qa : sgn a0 ≤ 32767 := by omega
  have pb : -32767 ≤ sgn a1 := by omega
  have qb : sgn a1 ≤ 32767 := by omega
  have FA : Hid (sgn a0 = 2 * unt a0 + 1) := fa
  have FB : Hid (sgn a1 = 2 * unt a1 + 1) := fb
  clear fa fb
  go_enter Try.func6, Try.ntmps6
  go_wp2_with (first | (go_at_call 18; refine (spec_two _ _ _).mono ?_; rintro e w' ⟨rfl, rfl⟩) | (go_at_call 19; refine (spec_tagged _ _).mono ?_; rintro e w' ⟨rfl, rfl⟩))
  go_ret3
  exact ⟨rfl, rfl⟩

theorem impl_AddTagged_no0 (a0 a1 : Int) (sa : smallB a0 = false) (W : World) :
    Calls Try.prog 5 #[.int .i64 a0, .int .i64 a1] W fun e W' => e = .returned (.tuple #[.int .i64 0, .bool false, .bool false]) ∧ W' = W := by
  go_enter Try.func5, Try.ntmps5
  go_wp2_with (first | (go_at_call 15; refine (impl_isSmall _ _).mono ?_; rintro e w' ⟨rfl, rfl⟩))
  go_ret3
  exact ⟨rfl, rfl⟩

theorem impl_AddTagged_no1 (a0 a1 : Int) (sa : smallB a0 = true) (sb : smallB a1 = false) (W : World) :
    Calls Try.prog 5 #[.int .i64 a0, .int .i64 a1] W fun e W' => e = .returned (.tuple #[.int .i64 0, .bool false, .bool false]) ∧ W' = W := by
  go_enter Try.func5, Try.ntmps5
  go_wp2_with (first | (go_at_call 15; refine (impl_isSmall _ _).mono ?_; rintro e w' ⟨rfl, rfl⟩))
  go_ret3
  exact ⟨rfl, rfl⟩

theorem impl_AddTagged_yes (a0 a1 : Int) (sa : smallB a0 = true) (sb : smallB a1 = true) (W : World) :
    Calls Try.prog 5 #[.int .i64 a0, .int .i64 a1] W fun e W' => e = .returned (.tuple #[.int .i64 (tagW (unt a0 + unt a1)), .bool (inB (unt a0 + unt a1)), .bool true]) ∧ W' = W := by
  obtain ⟨la, ua, _⟩ := smallB_out sa
  obtain ⟨lb, ub, _⟩ := smallB_out sb
  obtain ⟨fa, xa, ya⟩ := small_form sa
  obtain ⟨fb, xb, yb⟩ := small_form sb
  have pa : -32767 ≤ sgn a0 := by omega
  have qa : sgn a0 ≤ 32767 := by omega
  have pb : -32767 ≤ sgn a1 := by omega
  have qb : sgn a1 ≤ 32767 := by omega
  have FA : Hid (sgn a0 = 2 * unt a0 + 1) := fa
  have FB : Hid (sgn a1 = 2 * unt a1 + 1) := fb
  clear fa fb
  go_enter Try.func5, Try.ntmps5
  go_wp2_with (first | (go_at_call 15; refine (impl_isSmall _ _).mono ?_; rintro e w' ⟨rfl, rfl⟩) | (go_at_call 17; refine (impl_signedWord _ ?_ ?_ _).mono ?_; omega; omega; rintro e w' ⟨rfl, rfl⟩) | (go_at_call 16; refine (impl_smallWord (unt a0 + unt a1) _ ?_ ?_ ?_ _).mono ?_; (have h1 := FA.out; have h2 := FB.out; omega); omega; omega; rintro e w' ⟨rfl, rfl⟩))
  go_ret3
  exact ⟨rfl, rfl⟩

theorem spec_SubTagged_no0 (a0 a1 : Int) (sa : smallB a0 = false) (W : World) :
    Calls Try.prog 8 #[.int .i64 a0, .int .i64 a1] W fun e W' => e = .returned (.tuple #[.int .i64 0, .bool false, .bool false]) ∧ W' = W := by
  go_enter Try.func8, Try.ntmps8
  go_wp2_with (first | (go_at_call 18; refine (spec_two _ _ _).mono ?_; rintro e w' ⟨rfl, rfl⟩))
  go_ret3
  exact ⟨rfl, rfl⟩

theorem spec_SubTagged_no1 (a0 a1 : Int) (sa : smallB a0 = true) (sb : smallB a1 = false) (W : World) :
    Calls Try.prog 8 #[.int .i64 a0, .int .i64 a1] W fun e W' => e = .returned (.tuple #[.int .i64 0, .bool false, .bool false]) ∧ W' = W := by
  go_enter Try.func8, Try.ntmps8
  go_wp2_with (first | (go_at_call 18; refine (spec_two _ _ _).mono ?_; rintro e w' ⟨rfl, rfl⟩))
  go_ret3
  exact ⟨rfl, rfl⟩

theorem spec_SubTagged_yes (a0 a1 : Int) (sa : smallB a0 = true) (sb : smallB a1 = true) (W : World) :
    Calls Try.prog 8 #[.int .i64 a0, .int .i64 a1] W fun e W' => e = .returned (.tuple #[.int .i64 (tagW (unt a0 - unt a1)), .bool (inB (unt a0 - unt a1)), .bool true]) ∧ W' = W := by
  obtain ⟨la, ua, _⟩ := smallB_out sa
  obtain ⟨lb, ub, _⟩ := smallB_out sb
  obtain ⟨fa, xa, ya⟩ := small_form sa
  obtain ⟨fb, xb, yb⟩ := small_form sb
  have pa : -32767 ≤ sgn a0 := by omega
  have qa : sgn a0 ≤ 32767 := by omega
  have pb : -32767 ≤ sgn a1 := by omega
  have qb : sgn a1 ≤ 32767 := by omega
  have FA : Hid (sgn a0 = 2 * unt a0 + 1) := fa
  have FB : Hid (sgn a1 = 2 * unt a1 + 1) := fb
  clear fa fb
  go_enter Try.func8, Try.ntmps8
  go_wp2_with (first | (go_at_call 18; refine (spec_two _ _ _).mono ?_; rintro e w' ⟨rfl, rfl⟩) | (go_at_call 19; refine (spec_tagged _ _).mono ?_; rintro e w' ⟨rfl, rfl⟩))
  go_ret3
  exact ⟨rfl, rfl⟩

theorem impl_SubTagged_no0 (a0 a1 : Int) (sa : smallB a0 = false) (W : World) :
    Calls Try.prog 7 #[.int .i64 a0, .int .i64 a1] W fun e W' => e = .returned (.tuple #[.int .i64 0, .bool false, .bool false]) ∧ W' = W := by
  go_enter Try.func7, Try.ntmps7
  go_wp2_with (first | (go_at_call 15; refine (impl_isSmall _ _).mono ?_; rintro e w' ⟨rfl, rfl⟩))
  go_ret3
  exact ⟨rfl, rfl⟩

theorem impl_SubTagged_no1 (a0 a1 : Int) (sa : smallB a0 = true) (sb : smallB a1 = false) (W : World) :
    Calls Try.prog 7 #[.int .i64 a0, .int .i64 a1] W fun e W' => e = .returned (.tuple #[.int .i64 0, .bool false, .bool false]) ∧ W' = W := by
  go_enter Try.func7, Try.ntmps7
  go_wp2_with (first | (go_at_call 15; refine (impl_isSmall _ _).mono ?_; rintro e w' ⟨rfl, rfl⟩))
  go_ret3
  exact ⟨rfl, rfl⟩

theorem impl_SubTagged_yes (a0 a1 : Int) (sa : smallB a0 = true) (sb : smallB a1 = true) (W : World) :
    Calls Try.prog 7 #[.int .i64 a0, .int .i64 a1] W fun e W' => e = .returned (.tuple #[.int .i64 (tagW (unt a0 - unt a1)), .bool (inB (unt a0 - unt a1)), .bool true]) ∧ W' = W := by
  obtain ⟨la, ua, _⟩ := smallB_out sa
  obtain ⟨lb, ub, _⟩ := smallB_out sb
  obtain ⟨fa, xa, ya⟩ := small_form sa
  obtain ⟨fb, xb, yb⟩ := small_form sb
  have pa : -32767 ≤ sgn a0 := by omega
  have qa : sgn a0 ≤ 32767 := by omega
  have pb : -32767 ≤ sgn a1 := by omega
  have qb : sgn a1 ≤ 32767 := by omega
  have FA : Hid (sgn a0 = 2 * unt a0 + 1) := fa
  have FB : Hid (sgn a1 = 2 * unt a1 + 1) := fb
  clear fa fb
  go_enter Try.func7, Try.ntmps7
  go_wp2_with (first | (go_at_call 15; refine (impl_isSmall _ _).mono ?_; rintro e w' ⟨rfl, rfl⟩) | (go_at_call 17; refine (impl_signedWord _ ?_ ?_ _).mono ?_; omega; omega; rintro e w' ⟨rfl, rfl⟩) | (go_at_call 16; refine (impl_smallWord (unt a0 - unt a1) _ ?_ ?_ ?_ _).mono ?_; (have h1 := FA.out; have h2 := FB.out; omega); omega; omega; rintro e w' ⟨rfl, rfl⟩))
  go_ret3
  exact ⟨rfl, rfl⟩

theorem spec_MulTagged_no0 (a0 a1 : Int) (sa : smallB a0 = false) (W : World) :
    Calls Try.prog 10 #[.int .i64 a0, .int .i64 a1] W fun e W' => e = .returned (.tuple #[.int .i64 0, .bool false, .bool false]) ∧ W' = W := by
  go_enter Try.func10, Try.ntmps10
  go_wp2_with (first | (go_at_call 18; refine (spec_two _ _ _).mono ?_; rintro e w' ⟨rfl, rfl⟩))
  go_ret3
  exact ⟨rfl, rfl⟩

theorem spec_MulTagged_no1 (a0 a1 : Int) (sa : smallB a0 = true) (sb : smallB a1 = false) (W : World) :
    Calls Try.prog 10 #[.int .i64 a0, .int .i64 a1] W fun e W' => e = .returned (.tuple #[.int .i64 0, .bool false, .bool false]) ∧ W' = W := by
  go_enter Try.func10, Try.ntmps10
  go_wp2_with (first | (go_at_call 18; refine (spec_two _ _ _).mono ?_; rintro e w' ⟨rfl, rfl⟩))
  go_ret3
  exact ⟨rfl, rfl⟩

theorem spec_MulTagged_yes (a0 a1 : Int) (sa : smallB a0 = true) (sb : smallB a1 = true) (W : World) :
    Calls Try.prog 10 #[.int .i64 a0, .int .i64 a1] W fun e W' => e = .returned (.tuple #[.int .i64 (tagW (unt a0 * unt a1)), .bool (inB (unt a0 * unt a1)), .bool true]) ∧ W' = W := by
  obtain ⟨la, ua, _⟩ := smallB_out sa
  obtain ⟨lb, ub, _⟩ := smallB_out sb
  obtain ⟨fa, xa, ya⟩ := small_form sa
  obtain ⟨fb, xb, yb⟩ := small_form sb
  have pa : -32767 ≤ sgn a0 := by omega
  have qa : sgn a0 ≤ 32767 := by omega
  have pb : -32767 ≤ sgn a1 := by omega
  have qb : sgn a1 ≤ 32767 := by omega
  have FA : Hid (sgn a0 = 2 * unt a0 + 1) := fa
  have FB : Hid (sgn a1 = 2 * unt a1 + 1) := fb
  clear fa fb
  have PR : Hid ((sgn a0 - 1) * (sgn a1 / 2) = 2 * (unt a0 * unt a1)) := mul_form FA.out FB.out
  obtain ⟨m0, m1⟩ := mul_bd xa ya xb yb
  have m2 : -536870912 ≤ (sgn a0 - 1) * (sgn a1 / 2) := by have := PR.out; omega
  have m3 : (sgn a0 - 1) * (sgn a1 / 2) ≤ 536870912 := by have := PR.out; omega
  go_enter Try.func10, Try.ntmps10
  go_wp2_with (first | (go_at_call 18; refine (spec_two _ _ _).mono ?_; rintro e w' ⟨rfl, rfl⟩) | (go_at_call 19; refine (spec_tagged _ _).mono ?_; rintro e w' ⟨rfl, rfl⟩))
  go_ret3
  exact ⟨rfl, rfl⟩

theorem impl_MulTagged_no0 (a0 a1 : Int) (sa : smallB a0 = false) (W : World) :
    Calls Try.prog 9 #[.int .i64 a0, .int .i64 a1] W fun e W' => e = .returned (.tuple #[.int .i64 0, .bool false, .bool false]) ∧ W' = W := by
  go_enter Try.func9, Try.ntmps9
  go_wp2_with (first | (go_at_call 15; refine (impl_isSmall _ _).mono ?_; rintro e w' ⟨rfl, rfl⟩))
  go_ret3
  exact ⟨rfl, rfl⟩

theorem impl_MulTagged_no1 (a0 a1 : Int) (sa : smallB a0 = true) (sb : smallB a1 = false) (W : World) :
    Calls Try.prog 9 #[.int .i64 a0, .int .i64 a1] W fun e W' => e = .returned (.tuple #[.int .i64 0, .bool false, .bool false]) ∧ W' = W := by
  go_enter Try.func9, Try.ntmps9
  go_wp2_with (first | (go_at_call 15; refine (impl_isSmall _ _).mono ?_; rintro e w' ⟨rfl, rfl⟩))
  go_ret3
  exact ⟨rfl, rfl⟩

theorem impl_MulTagged_yes (a0 a1 : Int) (sa : smallB a0 = true) (sb : smallB a1 = true) (W : World) :
    Calls Try.prog 9 #[.int .i64 a0, .int .i64 a1] W fun e W' => e = .returned (.tuple #[.int .i64 (tagW (unt a0 * unt a1)), .bool (inB (unt a0 * unt a1)), .bool true]) ∧ W' = W := by
  obtain ⟨la, ua, _⟩ := smallB_out sa
  obtain ⟨lb, ub, _⟩ := smallB_out sb
  obtain ⟨fa, xa, ya⟩ := small_form sa
  obtain ⟨fb, xb, yb⟩ := small_form sb
  have pa : -32767 ≤ sgn a0 := by omega
  have qa : sgn a0 ≤ 32767 := by omega
  have pb : -32767 ≤ sgn a1 := by omega
  have qb : sgn a1 ≤ 32767 := by omega
  have FA : Hid (sgn a0 = 2 * unt a0 + 1) := fa
  have FB : Hid (sgn a1 = 2 * unt a1 + 1) := fb
  clear fa fb
  have PR : Hid ((sgn a0 - 1) * (sgn a1 / 2) = 2 * (unt a0 * unt a1)) := mul_form FA.out FB.out
  obtain ⟨m0, m1⟩ := mul_bd xa ya xb yb
  have m2 : -536870912 ≤ (sgn a0 - 1) * (sgn a1 / 2) := by have := PR.out; omega
  have m3 : (sgn a0 - 1) * (sgn a1 / 2) ≤ 536870912 := by have := PR.out; omega
  go_enter Try.func9, Try.ntmps9
  go_wp2_with (first | (go_at_call 15; refine (impl_isSmall _ _).mono ?_; rintro e w' ⟨rfl, rfl⟩) | (go_at_call 17; refine (impl_signedWord _ ?_ ?_ _).mono ?_; omega; omega; rintro e w' ⟨rfl, rfl⟩) | (go_at_call 16; refine (impl_smallWord (unt a0 * unt a1) _ ?_ ?_ ?_ _).mono ?_; (have h1 := PR.out; omega); omega; omega; rintro e w' ⟨rfl, rfl⟩))
  go_ret3
  exact ⟨rfl, rfl⟩

theorem spec_LessTagged_no0 (a0 a1 : Int) (sa : smallB a0 = false) (W : World) :
    Calls Try.prog 12 #[.int .i64 a0, .int .i64 a1] W fun e W' => e = .returned (.tuple #[.bool false, .bool false]) ∧ W' = W := by
  go_enter Try.func12, Try.ntmps12
  go_wp2_with (first | (go_at_call 18; refine (spec_two _ _ _).mono ?_; rintro e w' ⟨rfl, rfl⟩))
  go_ret2
  exact ⟨rfl, rfl⟩

theorem spec_LessTagged_no1 (a0 a1 : Int) (sa : smallB a0 = true) (sb : smallB a1 = false) (W : World) :
    Calls Try.prog 12 #[.int .i64 a0, .int .i64 a1] W fun e W' => e = .returned (.tuple #[.bool false, .bool false]) ∧ W' = W := by
  go_enter Try.func12, Try.ntmps12
  go_wp2_with (first | (go_at_call 18; refine (spec_two _ _ _).mono ?_; rintro e w' ⟨rfl, rfl⟩))
  go_ret2
  exact ⟨rfl, rfl⟩

theorem spec_LessTagged_yes (a0 a1 : Int) (sa : smallB a0 = true) (sb : smallB a1 = true) (W : World) :
    Calls Try.prog 12 #[.int .i64 a0, .int .i64 a1] W fun e W' => e = .returned (.tuple #[.bool (decide (unt a0 < unt a1)), .bool true]) ∧ W' = W := by
  obtain ⟨la, ua, _⟩ := smallB_out sa
  obtain ⟨lb, ub, _⟩ := smallB_out sb
  obtain ⟨fa, xa, ya⟩ := small_form sa
  obtain ⟨fb, xb, yb⟩ := small_form sb
  by_cases c : unt a0 < unt a1
  · have d0 : decide (unt a0 < unt a1) = true := decide_eq_true c
    have d1 : decide (sgn a0 < sgn a1) = true := decide_eq_true (by omega)
    rw [d0]
    clear fa fb
    go_enter Try.func12, Try.ntmps12
    go_wp2_with (first | (go_at_call 18; refine (spec_two _ _ _).mono ?_; rintro e w' ⟨rfl, rfl⟩) | (go_at_call 19; refine (spec_tagged _ _).mono ?_; rintro e w' ⟨rfl, rfl⟩))
    go_ret2
    exact ⟨rfl, rfl⟩
  · have d0 : decide (unt a0 < unt a1) = false := decide_eq_false c
    have d1 : decide (sgn a0 < sgn a1) = false := decide_eq_false (by omega)
    rw [d0]
    clear fa fb
    go_enter Try.func12, Try.ntmps12
    go_wp2_with (first | (go_at_call 18; refine (spec_two _ _ _).mono ?_; rintro e w' ⟨rfl, rfl⟩) | (go_at_call 19; refine (spec_tagged _ _).mono ?_; rintro e w' ⟨rfl, rfl⟩))
    go_ret2
    exact ⟨rfl, rfl⟩

theorem impl_LessTagged_no0 (a0 a1 : Int) (sa : smallB a0 = false) (W : World) :
    Calls Try.prog 11 #[.int .i64 a0, .int .i64 a1] W fun e W' => e = .returned (.tuple #[.bool false, .bool false]) ∧ W' = W := by
  go_enter Try.func11, Try.ntmps11
  go_wp2_with (first | (go_at_call 15; refine (impl_isSmall _ _).mono ?_; rintro e w' ⟨rfl, rfl⟩))
  go_ret2
  exact ⟨rfl, rfl⟩

theorem impl_LessTagged_no1 (a0 a1 : Int) (sa : smallB a0 = true) (sb : smallB a1 = false) (W : World) :
    Calls Try.prog 11 #[.int .i64 a0, .int .i64 a1] W fun e W' => e = .returned (.tuple #[.bool false, .bool false]) ∧ W' = W := by
  go_enter Try.func11, Try.ntmps11
  go_wp2_with (first | (go_at_call 15; refine (impl_isSmall _ _).mono ?_; rintro e w' ⟨rfl, rfl⟩))
  go_ret2
  exact ⟨rfl, rfl⟩

theorem impl_LessTagged_yes (a0 a1 : Int) (sa : smallB a0 = true) (sb : smallB a1 = true) (W : World) :
    Calls Try.prog 11 #[.int .i64 a0, .int .i64 a1] W fun e W' => e = .returned (.tuple #[.bool (decide (unt a0 < unt a1)), .bool true]) ∧ W' = W := by
  obtain ⟨la, ua, _⟩ := smallB_out sa
  obtain ⟨lb, ub, _⟩ := smallB_out sb
  obtain ⟨fa, xa, ya⟩ := small_form sa
  obtain ⟨fb, xb, yb⟩ := small_form sb
  by_cases c : unt a0 < unt a1
  · have d0 : decide (unt a0 < unt a1) = true := decide_eq_true c
    have d1 : decide (sgn a0 < sgn a1) = true := decide_eq_true (by omega)
    rw [d0]
    clear fa fb
    go_enter Try.func11, Try.ntmps11
    go_wp2_with (first | (go_at_call 15; refine (impl_isSmall _ _).mono ?_; rintro e w' ⟨rfl, rfl⟩) | (go_at_call 17; refine (impl_signedWord _ ?_ ?_ _).mono ?_; omega; omega; rintro e w' ⟨rfl, rfl⟩))
    go_ret2
    exact ⟨rfl, rfl⟩
  · have d0 : decide (unt a0 < unt a1) = false := decide_eq_false c
    have d1 : decide (sgn a0 < sgn a1) = false := decide_eq_false (by omega)
    rw [d0]
    clear fa fb
    go_enter Try.func11, Try.ntmps11
    go_wp2_with (first | (go_at_call 15; refine (impl_isSmall _ _).mono ?_; rintro e w' ⟨rfl, rfl⟩) | (go_at_call 17; refine (impl_signedWord _ ?_ ?_ _).mono ?_; omega; omega; rintro e w' ⟨rfl, rfl⟩))
    go_ret2
    exact ⟨rfl, rfl⟩

theorem impl_untagSmall (w : Int) (W : World) :
    Calls Try.prog 13 #[.int .i64 w] W fun e W' => e = .returned (.tuple #[.int .i64 (unt w), .bool (smallB w)]) ∧ W' = W := by
  by_cases c0_w : w < 0
  · have d0_w : decide (0 ≤ w) = false := decide_eq_false (by omega)
    have s_w : smallB w = false := smallB_lt c0_w
    rw [unt_no s_w, s_w]
    clear s_w
    go_enter Try.func13, Try.ntmps13
    go_wp2
    go_ret2
    exact ⟨rfl, rfl⟩
  by_cases c1_w : 65535 < w
  · have d1_w : decide (w ≤ 65535) = false := decide_eq_false (by omega)
    have s_w : smallB w = false := smallB_gt c1_w
    rw [unt_no s_w, s_w]
    clear s_w
    go_enter Try.func13, Try.ntmps13
    go_wp2
    go_ret2
    exact ⟨rfl, rfl⟩
  have b_w := and_one w
  by_cases c2_w : w % 2 = 0
  · have s_w : smallB w = false := smallB_even c2_w
    rw [c2_w] at b_w
    rw [unt_no s_w, s_w]
    clear s_w
    go_enter Try.func13, Try.ntmps13
    go_wp2
    go_ret2
    exact ⟨rfl, rfl⟩
  have c3_w : w % 2 = 1 := by omega
  have s_w : smallB w = true := smallB_mk (by omega) (by omega) c3_w
  rw [c3_w] at b_w
  have t_w := and_top w (by omega) (by omega)
  by_cases c4_w : 32768 ≤ w
  · have g_w : w / 32768 = 1 := by omega
    rw [g_w] at t_w
    have u_w : sgn w = w - 65536 := sgn_hi c4_w
    clear g_w
    rw [unt_yes s_w, u_w, s_w]
    clear s_w u_w
    go_enter Try.func13, Try.ntmps13
    go_wp2
    go_ret2
    exact ⟨by rw [show w - 65536 = w - 65535 - 1 from by omega]; rfl, rfl⟩
  · have g_w : w / 32768 = 0 := by omega
    rw [g_w] at t_w
    have u_w : sgn w = w := sgn_lo (by omega)
    clear g_w
    rw [unt_yes s_w, u_w, s_w]
    clear s_w u_w
    go_enter Try.func13, Try.ntmps13
    go_wp2
    go_ret2
    exact ⟨rfl, rfl⟩

end Go.Proofs.Ytighdafgkkenpaa.sums

/-
  What DivBy, ModBy and DivSigned answer, of the program and of the specification, at every magic and every number; they make new memory alone.
-/
import Derived.Test.YthfakhkoagdcjaaProg
import Derived.Test.YthfakhkoagdcjaaMagMath
import Derived.Test.YthfakhkoagdcjaaMagGood
import Derived.WalkKit
import Derived.WalkSpells
import Derived.Below
import Derived.Deep.RegionWith
namespace Go.Proofs.Ythfakhkoagdcjaa.walks
open Go.RowKit Go.Proofs.Ythfakhkoagdcjaa.math

theorem impl_shifted (b m s n : Int) (W : World) (hm0 : 0 ≤ m) (hm1 : m ≤ 131071) (hs0 : 0 ≤ s) (hs1 : s ≤ 32) (hn0 : 0 ≤ n) (hn1 : n ≤ 65535) :
    Calls Try.prog 26 #[.agg #[.int .i64 b, .int .i64 m, .int .i64 s], .int .i64 n] W fun e W' => e = .returned (.int .i64 (divW m s n)) ∧ W' = W.alloc (.cells #[.int .i64 b, .int .i64 m, .int .i64 s] 25) := by
  obtain ⟨p0, p1⟩ := mag_mul hn0 hn1 hm0 hm1
  go_enter Try.func26, Try.ntmps26
  go_wp2
  go_ret
  exact ⟨rfl, rfl⟩

theorem spec_shifted (b m s n : Int) (W : World) (hm0 : 0 ≤ m) (hm1 : m ≤ 131071) (hs0 : 0 ≤ s) (hs1 : s ≤ 32) (hn0 : 0 ≤ n) (hn1 : n ≤ 65535) :
    Calls Try.prog 29 #[.agg #[.int .i64 b, .int .i64 m, .int .i64 s], .int .i64 n] W fun e W' => e = .returned (.int .i64 (divW m s n)) ∧ W' = W.alloc (.cells #[.int .i64 b, .int .i64 m, .int .i64 s] 25) := by
  obtain ⟨p0, p1⟩ := mag_mul hn0 hn1 hm0 hm1
  go_enter Try.func29, Try.ntmps29
  go_wp2
  go_ret
  exact ⟨rfl, rfl⟩

set_option maxHeartbeats 1000000 in
theorem impl_div (b m s n : Int) (W : World) :
    Calls Try.prog 8 #[.agg #[.int .i64 b, .int .i64 m, .int .i64 s], .int .i64 n] W fun e W' => e = .returned (.tuple #[.int .i64 (divV b m s n), .bool (divB b m s n)]) ∧ Below W.heap.size W W' := by
  cases hg : goodB b m s
  · rw [show divB b m s n = false from divB_bad hg, show divV b m s n = 0 from divV_no (divB_bad hg)]
    go_enter Try.func8, Try.ntmps8
    go_wp2_with (first | (go_at_call 10; refine (impl_good _ _ _ _).mono ?_; rintro e w' ⟨rfl, rfl⟩) | (go_at_call 25; refine (impl_word _ _).mono ?_; rintro e w' ⟨rfl, rfl⟩))
    go_ret2
    exact ⟨rfl, by repeat (first | exact Below.refl _ _ | refine Below.drew ?_ | refine Below.setCell ?_ (by simp; try omega) _ | refine Below.alloc ?_ (by simp; try omega) _)⟩
  obtain ⟨g0, g1, g2, g3, g4, g5⟩ := good_out hg
  by_cases h0 : 0 ≤ n
  rotate_left
  · have k0 : n < 0 := by omega
    have d0 : decide (0 ≤ n) = false := decide_eq_false h0
    have e0 : inR n 0 65535 = false := inR_lt k0
    rw [show divB b m s n = false from divB_lt k0, show divV b m s n = 0 from divV_no (divB_lt k0)]
    clear h0
    go_enter Try.func8, Try.ntmps8
    go_wp2_with (first | (go_at_call 10; refine (impl_good _ _ _ _).mono ?_; rintro e w' ⟨rfl, rfl⟩) | (go_at_call 25; refine (impl_word _ _).mono ?_; rintro e w' ⟨rfl, rfl⟩))
    go_ret2
    exact ⟨rfl, by repeat (first | exact Below.refl _ _ | refine Below.drew ?_ | refine Below.setCell ?_ (by simp; try omega) _ | refine Below.alloc ?_ (by simp; try omega) _)⟩
  by_cases h1 : n ≤ 65535
  rotate_left
  · have k1 : 65535 < n := by omega
    have d1 : decide (n ≤ 65535) = false := decide_eq_false h1
    have e1 : inR n 0 65535 = false := inR_gt k1
    rw [show divB b m s n = false from divB_gt k1, show divV b m s n = 0 from divV_no (divB_gt k1)]
    clear h1
    go_enter Try.func8, Try.ntmps8
    go_wp2_with (first | (go_at_call 10; refine (impl_good _ _ _ _).mono ?_; rintro e w' ⟨rfl, rfl⟩) | (go_at_call 25; refine (impl_word _ _).mono ?_; rintro e w' ⟨rfl, rfl⟩))
    go_ret2
    exact ⟨rfl, by repeat (first | exact Below.refl _ _ | refine Below.drew ?_ | refine Below.setCell ?_ (by simp; try omega) _ | refine Below.alloc ?_ (by simp; try omega) _)⟩
  have e2 : inR n 0 65535 = true := inR_mk h0 h1
  rw [show divB b m s n = true from divB_mk hg h0 h1, show divV b m s n = divW m s n from divV_yes (divB_mk hg h0 h1)]
  go_enter Try.func8, Try.ntmps8
  go_wp2_with (first | (go_at_call 10; refine (impl_good _ _ _ _).mono ?_; rintro e w' ⟨rfl, rfl⟩) | (go_at_call 25; refine (impl_word _ _).mono ?_; rintro e w' ⟨rfl, rfl⟩) | (go_at_call 26; refine (impl_shifted _ _ _ _ _ g2 g3 g4 g5 h0 h1).mono ?_; rintro e w' ⟨rfl, rfl⟩))
  go_ret2
  exact ⟨rfl, by repeat (first | exact Below.refl _ _ | refine Below.drew ?_ | refine Below.setCell ?_ (by simp; try omega) _ | refine Below.alloc ?_ (by simp; try omega) _)⟩

set_option maxHeartbeats 1000000 in
theorem spec_div (b m s n : Int) (W : World) :
    Calls Try.prog 12 #[.agg #[.int .i64 b, .int .i64 m, .int .i64 s], .int .i64 n] W fun e W' => e = .returned (.tuple #[.int .i64 (divV b m s n), .bool (divB b m s n)]) ∧ Below W.heap.size W W' := by
  cases hg : goodB b m s
  · rw [show divB b m s n = false from divB_bad hg, show divV b m s n = 0 from divV_no (divB_bad hg)]
    go_enter Try.func12, Try.ntmps12
    go_wp2_with (first | (go_at_call 17; refine (spec_good _ _ _ _).mono ?_; rintro e w' ⟨rfl, rfl⟩) | (go_at_call 24; refine (spec_in _ _ _ _).mono ?_; rintro e w' ⟨rfl, rfl⟩))
    go_ret2
    exact ⟨rfl, by repeat (first | exact Below.refl _ _ | refine Below.drew ?_ | refine Below.setCell ?_ (by simp; try omega) _ | refine Below.alloc ?_ (by simp; try omega) _)⟩
  obtain ⟨g0, g1, g2, g3, g4, g5⟩ := good_out hg
  by_cases h0 : 0 ≤ n
  rotate_left
  · have k0 : n < 0 := by omega
    have d0 : decide (0 ≤ n) = false := decide_eq_false h0
    have e0 : inR n 0 65535 = false := inR_lt k0
    rw [show divB b m s n = false from divB_lt k0, show divV b m s n = 0 from divV_no (divB_lt k0)]
    clear h0
    go_enter Try.func12, Try.ntmps12
    go_wp2_with (first | (go_at_call 17; refine (spec_good _ _ _ _).mono ?_; rintro e w' ⟨rfl, rfl⟩) | (go_at_call 24; refine (spec_in _ _ _ _).mono ?_; rintro e w' ⟨rfl, rfl⟩))
    go_ret2
    exact ⟨rfl, by repeat (first | exact Below.refl _ _ | refine Below.drew ?_ | refine Below.setCell ?_ (by simp; try omega) _ | refine Below.alloc ?_ (by simp; try omega) _)⟩
  by_cases h1 : n ≤ 65535
  rotate_left
  · have k1 : 65535 < n := by omega
    have d1 : decide (n ≤ 65535) = false := decide_eq_false h1
    have e1 : inR n 0 65535 = false := inR_gt k1
    rw [show divB b m s n = false from divB_gt k1, show divV b m s n = 0 from divV_no (divB_gt k1)]
    clear h1
    go_enter Try.func12, Try.ntmps12
    go_wp2_with (first | (go_at_call 17; refine (spec_good _ _ _ _).mono ?_; rintro e w' ⟨rfl, rfl⟩) | (go_at_call 24; refine (spec_in _ _ _ _).mono ?_; rintro e w' ⟨rfl, rfl⟩))
    go_ret2
    exact ⟨rfl, by repeat (first | exact Below.refl _ _ | refine Below.drew ?_ | refine Below.setCell ?_ (by simp; try omega) _ | refine Below.alloc ?_ (by simp; try omega) _)⟩
  have e2 : inR n 0 65535 = true := inR_mk h0 h1
  rw [show divB b m s n = true from divB_mk hg h0 h1, show divV b m s n = divW m s n from divV_yes (divB_mk hg h0 h1)]
  go_enter Try.func12, Try.ntmps12
  go_wp2_with (first | (go_at_call 17; refine (spec_good _ _ _ _).mono ?_; rintro e w' ⟨rfl, rfl⟩) | (go_at_call 24; refine (spec_in _ _ _ _).mono ?_; rintro e w' ⟨rfl, rfl⟩) | (go_at_call 29; refine (spec_shifted _ _ _ _ _ g2 g3 g4 g5 h0 h1).mono ?_; rintro e w' ⟨rfl, rfl⟩))
  go_ret2
  exact ⟨rfl, by repeat (first | exact Below.refl _ _ | refine Below.drew ?_ | refine Below.setCell ?_ (by simp; try omega) _ | refine Below.alloc ?_ (by simp; try omega) _)⟩

set_option maxHeartbeats 1000000 in
theorem impl_mod (b m s n : Int) (W : World) :
    Calls Try.prog 9 #[.agg #[.int .i64 b, .int .i64 m, .int .i64 s], .int .i64 n] W fun e W' => e = .returned (.tuple #[.int .i64 (modV b m s n), .bool (modB b m s n)]) ∧ Below W.heap.size W W' := by
  cases hg : goodB b m s
  · rw [show modB b m s n = false from modB_bad hg, show modV b m s n = 0 from modV_no (modB_bad hg)]
    go_enter Try.func9, Try.ntmps9
    go_wp2_with (first | (go_at_call 10; refine (impl_good _ _ _ _).mono ?_; rintro e w' ⟨rfl, rfl⟩) | (go_at_call 25; refine (impl_word _ _).mono ?_; rintro e w' ⟨rfl, rfl⟩))
    go_ret2
    exact ⟨rfl, by repeat (first | exact Below.refl _ _ | refine Below.drew ?_ | refine Below.setCell ?_ (by simp; try omega) _ | refine Below.alloc ?_ (by simp; try omega) _)⟩
  obtain ⟨g0, g1, g2, g3, g4, g5⟩ := good_out hg
  by_cases h0 : 0 ≤ n
  rotate_left
  · have k0 : n < 0 := by omega
    have d0 : decide (0 ≤ n) = false := decide_eq_false h0
    have e0 : inR n 0 65535 = false := inR_lt k0
    rw [show modB b m s n = false from modB_lt k0, show modV b m s n = 0 from modV_no (modB_lt k0)]
    clear h0
    go_enter Try.func9, Try.ntmps9
    go_wp2_with (first | (go_at_call 10; refine (impl_good _ _ _ _).mono ?_; rintro e w' ⟨rfl, rfl⟩) | (go_at_call 25; refine (impl_word _ _).mono ?_; rintro e w' ⟨rfl, rfl⟩))
    go_ret2
    exact ⟨rfl, by repeat (first | exact Below.refl _ _ | refine Below.drew ?_ | refine Below.setCell ?_ (by simp; try omega) _ | refine Below.alloc ?_ (by simp; try omega) _)⟩
  by_cases h1 : n ≤ 65535
  rotate_left
  · have k1 : 65535 < n := by omega
    have d1 : decide (n ≤ 65535) = false := decide_eq_false h1
    have e1 : inR n 0 65535 = false := inR_gt k1
    rw [show modB b m s n = false from modB_gt k1, show modV b m s n = 0 from modV_no (modB_gt k1)]
    clear h1
    go_enter Try.func9, Try.ntmps9
    go_wp2_with (first | (go_at_call 10; refine (impl_good _ _ _ _).mono ?_; rintro e w' ⟨rfl, rfl⟩) | (go_at_call 25; refine (impl_word _ _).mono ?_; rintro e w' ⟨rfl, rfl⟩))
    go_ret2
    exact ⟨rfl, by repeat (first | exact Below.refl _ _ | refine Below.drew ?_ | refine Below.setCell ?_ (by simp; try omega) _ | refine Below.alloc ?_ (by simp; try omega) _)⟩
  have e2 : inR n 0 65535 = true := inR_mk h0 h1
  rw [show modB b m s n = true from modB_mk hg h0 h1, show modV b m s n = n - b * divW m s n from modV_yes (modB_mk hg h0 h1)]
  obtain ⟨q0, q1⟩ := mag_back g0 g1 (mag_div h0 h1 g2 g3 (s := s)).1 (mag_div h0 h1 g2 g3 (s := s)).2
  go_enter Try.func9, Try.ntmps9
  go_wp2_with (first | (go_at_call 10; refine (impl_good _ _ _ _).mono ?_; rintro e w' ⟨rfl, rfl⟩) | (go_at_call 25; refine (impl_word _ _).mono ?_; rintro e w' ⟨rfl, rfl⟩) | (go_at_call 26; refine (impl_shifted _ _ _ _ _ g2 g3 g4 g5 h0 h1).mono ?_; rintro e w' ⟨rfl, rfl⟩))
  go_region_with (go_at_call 26; refine (impl_shifted _ _ _ _ _ g2 g3 g4 g5 h0 h1).mono ?_; rintro e w' ⟨rfl, rfl⟩)
  all_goals go_wp2_with fail
  all_goals
    go_ret2
    refine ⟨?_, by repeat (first | exact Below.refl _ _ | refine Below.drew ?_ | refine Below.setCell ?_ (by simp; try omega) _ | refine Below.alloc ?_ (by simp; try omega) _)⟩
    show Ending.returned (.tuple #[.int .i64 (IntKind.i64.wrap (n - IntKind.i64.wrap (b * divW m s n))), .bool true]) = _
    rw [wrap_in (x := b * divW m s n) (by omega) (by omega), wrap_in (by omega) (by omega)]

set_option maxHeartbeats 1000000 in
theorem spec_mod (b m s n : Int) (W : World) :
    Calls Try.prog 13 #[.agg #[.int .i64 b, .int .i64 m, .int .i64 s], .int .i64 n] W fun e W' => e = .returned (.tuple #[.int .i64 (modV b m s n), .bool (modB b m s n)]) ∧ Below W.heap.size W W' := by
  cases hg : goodB b m s
  · rw [show modB b m s n = false from modB_bad hg, show modV b m s n = 0 from modV_no (modB_bad hg)]
    go_enter Try.func13, Try.ntmps13
    go_wp2_with (first | (go_at_call 17; refine (spec_good _ _ _ _).mono ?_; rintro e w' ⟨rfl, rfl⟩) | (go_at_call 24; refine (spec_in _ _ _ _).mono ?_; rintro e w' ⟨rfl, rfl⟩))
    go_ret2
    exact ⟨rfl, by repeat (first | exact Below.refl _ _ | refine Below.drew ?_ | refine Below.setCell ?_ (by simp; try omega) _ | refine Below.alloc ?_ (by simp; try omega) _)⟩
  obtain ⟨g0, g1, g2, g3, g4, g5⟩ := good_out hg
  by_cases h0 : 0 ≤ n
  rotate_left
  · have k0 : n < 0 := by omega
    have d0 : decide (0 ≤ n) = false := decide_eq_false h0
    have e0 : inR n 0 65535 = false := inR_lt k0
    rw [show modB b m s n = false from modB_lt k0, show modV b m s n = 0 from modV_no (modB_lt k0)]
    clear h0
    go_enter Try.func13, Try.ntmps13
    go_wp2_with (first | (go_at_call 17; refine (spec_good _ _ _ _).mono ?_; rintro e w' ⟨rfl, rfl⟩) | (go_at_call 24; refine (spec_in _ _ _ _).mono ?_; rintro e w' ⟨rfl, rfl⟩))
    go_ret2
    exact ⟨rfl, by repeat (first | exact Below.refl _ _ | refine Below.drew ?_ | refine Below.setCell ?_ (by simp; try omega) _ | refine Below.alloc ?_ (by simp; try omega) _)⟩
  by_cases h1 : n ≤ 65535
  rotate_left
  · have k1 : 65535 < n := by omega
    have d1 : decide (n ≤ 65535) = false := decide_eq_false h1
    have e1 : inR n 0 65535 = false := inR_gt k1
    rw [show modB b m s n = false from modB_gt k1, show modV b m s n = 0 from modV_no (modB_gt k1)]
    clear h1
    go_enter Try.func13, Try.ntmps13
    go_wp2_with (first | (go_at_call 17; refine (spec_good _ _ _ _).mono ?_; rintro e w' ⟨rfl, rfl⟩) | (go_at_call 24; refine (spec_in _ _ _ _).mono ?_; rintro e w' ⟨rfl, rfl⟩))
    go_ret2
    exact ⟨rfl, by repeat (first | exact Below.refl _ _ | refine Below.drew ?_ | refine Below.setCell ?_ (by simp; try omega) _ | refine Below.alloc ?_ (by simp; try omega) _)⟩
  have e2 : inR n 0 65535 = true := inR_mk h0 h1
  rw [show modB b m s n = true from modB_mk hg h0 h1, show modV b m s n = n - b * divW m s n from modV_yes (modB_mk hg h0 h1)]
  obtain ⟨q0, q1⟩ := mag_back g0 g1 (mag_div h0 h1 g2 g3 (s := s)).1 (mag_div h0 h1 g2 g3 (s := s)).2
  go_enter Try.func13, Try.ntmps13
  go_wp2_with (first | (go_at_call 17; refine (spec_good _ _ _ _).mono ?_; rintro e w' ⟨rfl, rfl⟩) | (go_at_call 24; refine (spec_in _ _ _ _).mono ?_; rintro e w' ⟨rfl, rfl⟩) | (go_at_call 29; refine (spec_shifted _ _ _ _ _ g2 g3 g4 g5 h0 h1).mono ?_; rintro e w' ⟨rfl, rfl⟩))
  go_region_with (go_at_call 29; refine (spec_shifted _ _ _ _ _ g2 g3 g4 g5 h0 h1).mono ?_; rintro e w' ⟨rfl, rfl⟩)
  all_goals go_wp2_with fail
  all_goals
    go_ret2
    refine ⟨?_, by repeat (first | exact Below.refl _ _ | refine Below.drew ?_ | refine Below.setCell ?_ (by simp; try omega) _ | refine Below.alloc ?_ (by simp; try omega) _)⟩
    show Ending.returned (.tuple #[.int .i64 (IntKind.i64.wrap (n - IntKind.i64.wrap (b * divW m s n))), .bool true]) = _
    rw [wrap_in (x := b * divW m s n) (by omega) (by omega), wrap_in (by omega) (by omega)]

set_option maxHeartbeats 1000000 in
theorem impl_sdiv (b m s n : Int) (W : World) :
    Calls Try.prog 15 #[.agg #[.int .i64 b, .int .i64 m, .int .i64 s], .int .i64 n] W fun e W' => e = .returned (.tuple #[.int .i64 (sdivV b m s n), .bool (sdivB b m s n)]) ∧ Below W.heap.size W W' := by
  cases hg : goodB b m s
  · rw [show sdivB b m s n = false from sdivB_bad hg, show sdivV b m s n = 0 from sdivV_no (sdivB_bad hg)]
    go_enter Try.func15, Try.ntmps15
    go_wp2_with (first | (go_at_call 10; refine (impl_good _ _ _ _).mono ?_; rintro e w' ⟨rfl, rfl⟩))
    go_ret2
    exact ⟨rfl, by repeat (first | exact Below.refl _ _ | refine Below.drew ?_ | refine Below.setCell ?_ (by simp; try omega) _ | refine Below.alloc ?_ (by simp; try omega) _)⟩
  obtain ⟨g0, g1, g2, g3, g4, g5⟩ := good_out hg
  by_cases h0 : -32768 ≤ n
  rotate_left
  · have k0 : n < -32768 := by omega
    have d0 : decide (-32768 ≤ n) = false := decide_eq_false h0
    have e0 : inR n (-32768) 32767 = false := inR_lt k0
    rw [show sdivB b m s n = false from sdivB_lt k0, show sdivV b m s n = 0 from sdivV_no (sdivB_lt k0)]
    clear h0
    go_enter Try.func15, Try.ntmps15
    go_wp2_with (first | (go_at_call 10; refine (impl_good _ _ _ _).mono ?_; rintro e w' ⟨rfl, rfl⟩))
    go_ret2
    exact ⟨rfl, by repeat (first | exact Below.refl _ _ | refine Below.drew ?_ | refine Below.setCell ?_ (by simp; try omega) _ | refine Below.alloc ?_ (by simp; try omega) _)⟩
  by_cases h1 : n ≤ 32767
  rotate_left
  · have k1 : 32767 < n := by omega
    have d1 : decide (n ≤ 32767) = false := decide_eq_false h1
    have e1 : inR n (-32768) 32767 = false := inR_gt k1
    rw [show sdivB b m s n = false from sdivB_gt k1, show sdivV b m s n = 0 from sdivV_no (sdivB_gt k1)]
    clear h1
    go_enter Try.func15, Try.ntmps15
    go_wp2_with (first | (go_at_call 10; refine (impl_good _ _ _ _).mono ?_; rintro e w' ⟨rfl, rfl⟩))
    go_ret2
    exact ⟨rfl, by repeat (first | exact Below.refl _ _ | refine Below.drew ?_ | refine Below.setCell ?_ (by simp; try omega) _ | refine Below.alloc ?_ (by simp; try omega) _)⟩
  have e2 : inR n (-32768) 32767 = true := inR_mk h0 h1
  by_cases hz : n < 0
  · rw [show sdivB b m s n = true from sdivB_mk hg h0 h1, show sdivV b m s n = -divW m s (-n) from sdivV_neg (sdivB_mk hg h0 h1) hz]
    obtain ⟨q0, q1⟩ := mag_div (n := -n) (s := s) (by omega) (by omega) g2 g3
    have u0 : 0 ≤ -n := by omega
    have u1 : -n ≤ 65535 := by omega
    go_enter Try.func15, Try.ntmps15
    go_wp2_with (first | (go_at_call 10; refine (impl_good _ _ _ _).mono ?_; rintro e w' ⟨rfl, rfl⟩) | (go_at_call 26; refine (impl_shifted _ _ _ _ _ g2 g3 g4 g5 u0 u1).mono ?_; rintro e w' ⟨rfl, rfl⟩))
    go_ret2
    exact ⟨rfl, by repeat (first | exact Below.refl _ _ | refine Below.drew ?_ | refine Below.setCell ?_ (by simp; try omega) _ | refine Below.alloc ?_ (by simp; try omega) _)⟩
  · have u0 : 0 ≤ n := by omega
    have u1 : n ≤ 65535 := by omega
    clear hz
    rw [show sdivB b m s n = true from sdivB_mk hg h0 h1, show sdivV b m s n = divW m s n from sdivV_pos (sdivB_mk hg h0 h1) u0]
    go_enter Try.func15, Try.ntmps15
    go_wp2_with (first | (go_at_call 10; refine (impl_good _ _ _ _).mono ?_; rintro e w' ⟨rfl, rfl⟩) | (go_at_call 26; refine (impl_shifted _ _ _ _ _ g2 g3 g4 g5 u0 u1).mono ?_; rintro e w' ⟨rfl, rfl⟩))
    go_ret2
    exact ⟨rfl, by repeat (first | exact Below.refl _ _ | refine Below.drew ?_ | refine Below.setCell ?_ (by simp; try omega) _ | refine Below.alloc ?_ (by simp; try omega) _)⟩

set_option maxHeartbeats 1000000 in
theorem spec_sdiv (b m s n : Int) (W : World) :
    Calls Try.prog 16 #[.agg #[.int .i64 b, .int .i64 m, .int .i64 s], .int .i64 n] W fun e W' => e = .returned (.tuple #[.int .i64 (sdivV b m s n), .bool (sdivB b m s n)]) ∧ Below W.heap.size W W' := by
  cases hg : goodB b m s
  · rw [show sdivB b m s n = false from sdivB_bad hg, show sdivV b m s n = 0 from sdivV_no (sdivB_bad hg)]
    go_enter Try.func16, Try.ntmps16
    go_wp2_with (first | (go_at_call 17; refine (spec_good _ _ _ _).mono ?_; rintro e w' ⟨rfl, rfl⟩) | (go_at_call 24; refine (spec_in _ _ _ _).mono ?_; rintro e w' ⟨rfl, rfl⟩))
    go_ret2
    exact ⟨rfl, by repeat (first | exact Below.refl _ _ | refine Below.drew ?_ | refine Below.setCell ?_ (by simp; try omega) _ | refine Below.alloc ?_ (by simp; try omega) _)⟩
  obtain ⟨g0, g1, g2, g3, g4, g5⟩ := good_out hg
  by_cases h0 : -32768 ≤ n
  rotate_left
  · have k0 : n < -32768 := by omega
    have d0 : decide (-32768 ≤ n) = false := decide_eq_false h0
    have e0 : inR n (-32768) 32767 = false := inR_lt k0
    rw [show sdivB b m s n = false from sdivB_lt k0, show sdivV b m s n = 0 from sdivV_no (sdivB_lt k0)]
    clear h0
    go_enter Try.func16, Try.ntmps16
    go_wp2_with (first | (go_at_call 17; refine (spec_good _ _ _ _).mono ?_; rintro e w' ⟨rfl, rfl⟩) | (go_at_call 24; refine (spec_in _ _ _ _).mono ?_; rintro e w' ⟨rfl, rfl⟩))
    go_ret2
    exact ⟨rfl, by repeat (first | exact Below.refl _ _ | refine Below.drew ?_ | refine Below.setCell ?_ (by simp; try omega) _ | refine Below.alloc ?_ (by simp; try omega) _)⟩
  by_cases h1 : n ≤ 32767
  rotate_left
  · have k1 : 32767 < n := by omega
    have d1 : decide (n ≤ 32767) = false := decide_eq_false h1
    have e1 : inR n (-32768) 32767 = false := inR_gt k1
    rw [show sdivB b m s n = false from sdivB_gt k1, show sdivV b m s n = 0 from sdivV_no (sdivB_gt k1)]
    clear h1
    go_enter Try.func16, Try.ntmps16
    go_wp2_with (first | (go_at_call 17; refine (spec_good _ _ _ _).mono ?_; rintro e w' ⟨rfl, rfl⟩) | (go_at_call 24; refine (spec_in _ _ _ _).mono ?_; rintro e w' ⟨rfl, rfl⟩))
    go_ret2
    exact ⟨rfl, by repeat (first | exact Below.refl _ _ | refine Below.drew ?_ | refine Below.setCell ?_ (by simp; try omega) _ | refine Below.alloc ?_ (by simp; try omega) _)⟩
  have e2 : inR n (-32768) 32767 = true := inR_mk h0 h1
  by_cases hz : n < 0
  · rw [show sdivB b m s n = true from sdivB_mk hg h0 h1, show sdivV b m s n = -divW m s (-n) from sdivV_neg (sdivB_mk hg h0 h1) hz]
    obtain ⟨q0, q1⟩ := mag_div (n := -n) (s := s) (by omega) (by omega) g2 g3
    have u0 : 0 ≤ -n := by omega
    have u1 : -n ≤ 65535 := by omega
    go_enter Try.func16, Try.ntmps16
    go_wp2_with (first | (go_at_call 17; refine (spec_good _ _ _ _).mono ?_; rintro e w' ⟨rfl, rfl⟩) | (go_at_call 24; refine (spec_in _ _ _ _).mono ?_; rintro e w' ⟨rfl, rfl⟩) | (go_at_call 29; refine (spec_shifted _ _ _ _ _ g2 g3 g4 g5 u0 u1).mono ?_; rintro e w' ⟨rfl, rfl⟩))
    go_ret2
    exact ⟨rfl, by repeat (first | exact Below.refl _ _ | refine Below.drew ?_ | refine Below.setCell ?_ (by simp; try omega) _ | refine Below.alloc ?_ (by simp; try omega) _)⟩
  · have u0 : 0 ≤ n := by omega
    have u1 : n ≤ 65535 := by omega
    clear hz
    rw [show sdivB b m s n = true from sdivB_mk hg h0 h1, show sdivV b m s n = divW m s n from sdivV_pos (sdivB_mk hg h0 h1) u0]
    go_enter Try.func16, Try.ntmps16
    go_wp2_with (first | (go_at_call 17; refine (spec_good _ _ _ _).mono ?_; rintro e w' ⟨rfl, rfl⟩) | (go_at_call 24; refine (spec_in _ _ _ _).mono ?_; rintro e w' ⟨rfl, rfl⟩) | (go_at_call 29; refine (spec_shifted _ _ _ _ _ g2 g3 g4 g5 u0 u1).mono ?_; rintro e w' ⟨rfl, rfl⟩))
    go_ret2
    exact ⟨rfl, by repeat (first | exact Below.refl _ _ | refine Below.drew ?_ | refine Below.setCell ?_ (by simp; try omega) _ | refine Below.alloc ?_ (by simp; try omega) _)⟩
end Go.Proofs.Ythfakhkoagdcjaa.walks

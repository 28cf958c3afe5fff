/-
  What DivBy, ModBy and DivSigned answer, of the program and of the specification, at every magic and every number; they make new memory alone.
-/
import Derived.Test.YteogabkfkfaejabProg
import Derived.Test.YteogabkfkfaejabMagMath
import Derived.Test.YteogabkfkfaejabMagGood
import Derived.WalkKit
import Derived.WalkSpells
import Derived.Below
import Derived.Deep.RegionWith
namespace Go.Proofs.Yteogabkfkfaejab.walks
open Go.RowKit Go.Proofs.Yteogabkfkfaejab.math

theorem impl_shifted (b m s n : Int) (W : World) (hm0 : 0 ≤ m) (hm1 : m ≤ 131071) (hs0 : 0 ≤ s) (hs1 : s ≤ 32) (hn0 : 0 ≤ n) (hn1 : n ≤ 65535) :
    Calls Try.prog 23 #[.agg #[.int .i64 b, .int .i64 m, .int .i64 s], .int .i64 n] W fun e W' => e = .returned (.int .i64 (divW m s n)) ∧ W' = W.alloc (.cells #[.int .i64 b, .int .i64 m, .int .i64 s] 26) := by
  obtain ⟨p0, p1⟩ := mag_mul hn0 hn1 hm0 hm1
  go_enter Try.func23, Try.ntmps23
  go_wp2
  go_ret
  exact ⟨rfl, rfl⟩

theorem spec_shifted (b m s n : Int) (W : World) (hm0 : 0 ≤ m) (hm1 : m ≤ 131071) (hs0 : 0 ≤ s) (hs1 : s ≤ 32) (hn0 : 0 ≤ n) (hn1 : n ≤ 65535) :
    Calls Try.prog 21 #[.agg #[.int .i64 b, .int .i64 m, .int .i64 s], .int .i64 n] W fun e W' => e = .returned (.int .i64 (divW m s n)) ∧ W' = W.alloc (.cells #[.int .i64 b, .int .i64 m, .int .i64 s] 26) := by
  obtain ⟨p0, p1⟩ := mag_mul hn0 hn1 hm0 hm1
  go_enter Try.func21, Try.ntmps21
  go_wp2
  go_ret
  exact ⟨rfl, rfl⟩





set_option maxHeartbeats 1000000 in
theorem impl_sdiv (b m s n : Int) (W : World) :
    Calls Try.prog 11 #[.agg #[.int .i64 b, .int .i64 m, .int .i64 s], .int .i64 n] W fun e W' => e = .returned (.tuple #[.int .i64 (sdivV b m s n), .bool (sdivB b m s n)]) ∧ Below W.heap.size W W' := by
  cases hg : goodB b m s
  · rw [show sdivB b m s n = false from sdivB_bad hg, show sdivV b m s n = 0 from sdivV_no (sdivB_bad hg)]
    go_enter Try.func11, Try.ntmps11
    go_wp2_with (first | (go_at_call 22; refine (impl_good _ _ _ _).mono ?_; rintro e w' ⟨rfl, rfl⟩))
    go_ret2
    exact ⟨rfl, by repeat (first | exact Below.refl _ _ | refine Below.drew ?_ | refine Below.setCell ?_ (by simp; try omega) _ | refine Below.alloc ?_ (by simp; try omega) _)⟩
  obtain ⟨g0, g1, g2, g3, g4, g5⟩ := good_out hg
  by_cases h0 : -32768 ≤ n
  rotate_left
  · have k0 : n < -32768 := by omega
    have d0 : decide (-32768 ≤ n) = false := decide_eq_false h0
    have e0 : inR n (-32768) 32767 = false := inR_lt k0
    rw [show sdivB b m s n = false from sdivB_lt k0, show sdivV b m s n = 0 from sdivV_no (sdivB_lt k0)]
    clear h0
    go_enter Try.func11, Try.ntmps11
    go_wp2_with (first | (go_at_call 22; refine (impl_good _ _ _ _).mono ?_; rintro e w' ⟨rfl, rfl⟩))
    go_ret2
    exact ⟨rfl, by repeat (first | exact Below.refl _ _ | refine Below.drew ?_ | refine Below.setCell ?_ (by simp; try omega) _ | refine Below.alloc ?_ (by simp; try omega) _)⟩
  by_cases h1 : n ≤ 32767
  rotate_left
  · have k1 : 32767 < n := by omega
    have d1 : decide (n ≤ 32767) = false := decide_eq_false h1
    have e1 : inR n (-32768) 32767 = false := inR_gt k1
    rw [show sdivB b m s n = false from sdivB_gt k1, show sdivV b m s n = 0 from sdivV_no (sdivB_gt k1)]
    clear h1
    go_enter Try.func11, Try.ntmps11
    go_wp2_with (first | (go_at_call 22; refine (impl_good _ _ _ _).mono ?_; rintro e w' ⟨rfl, rfl⟩))
    go_ret2
    exact ⟨rfl, by repeat (first | exact Below.refl _ _ | refine Below.drew ?_ | refine Below.setCell ?_ (by simp; try omega) _ | refine Below.alloc ?_ (by simp; try omega) _)⟩
  have e2 : inR n (-32768) 32767 = true := inR_mk h0 h1
  by_cases hz : n < 0
  · rw [show sdivB b m s n = true from sdivB_mk hg h0 h1, show sdivV b m s n = -divW m s (-n) from sdivV_neg (sdivB_mk hg h0 h1) hz]
    obtain ⟨q0, q1⟩ := mag_div (n := -n) (s := s) (by omega) (by omega) g2 g3
    have u0 : 0 ≤ -n := by omega
    have u1 : -n ≤ 65535 := by omega
    go_enter Try.func11, Try.ntmps11
    go_wp2_with (first | (go_at_call 22; refine (impl_good _ _ _ _).mono ?_; rintro e w' ⟨rfl, rfl⟩) | (go_at_call 23; refine (impl_shifted _ _ _ _ _ g2 g3 g4 g5 u0 u1).mono ?_; rintro e w' ⟨rfl, rfl⟩))
    go_ret2
    exact ⟨rfl, by repeat (first | exact Below.refl _ _ | refine Below.drew ?_ | refine Below.setCell ?_ (by simp; try omega) _ | refine Below.alloc ?_ (by simp; try omega) _)⟩
  · have u0 : 0 ≤ n := by omega
    have u1 : n ≤ 65535 := by omega
    clear hz
    rw [show sdivB b m s n = true from sdivB_mk hg h0 h1, show sdivV b m s n = divW m s n from sdivV_pos (sdivB_mk hg h0 h1) u0]
    go_enter Try.func11, Try.ntmps11
    go_wp2_with (first | (go_at_call 22; refine (impl_good _ _ _ _).mono ?_; rintro e w' ⟨rfl, rfl⟩) | (go_at_call 23; refine (impl_shifted _ _ _ _ _ g2 g3 g4 g5 u0 u1).mono ?_; rintro e w' ⟨rfl, rfl⟩))
    go_ret2
    exact ⟨rfl, by repeat (first | exact Below.refl _ _ | refine Below.drew ?_ | refine Below.setCell ?_ (by simp; try omega) _ | refine Below.alloc ?_ (by simp; try omega) _)⟩

set_option maxHeartbeats 1000000 in
theorem spec_sdiv (b m s n : Int) (W : World) :
    Calls Try.prog 10 #[.agg #[.int .i64 b, .int .i64 m, .int .i64 s], .int .i64 n] W fun e W' => e = .returned (.tuple #[.int .i64 (sdivV b m s n), .bool (sdivB b m s n)]) ∧ Below W.heap.size W W' := by
  cases hg : goodB b m s
  · rw [show sdivB b m s n = false from sdivB_bad hg, show sdivV b m s n = 0 from sdivV_no (sdivB_bad hg)]
    go_enter Try.func10, Try.ntmps10
    go_wp2_with (first | (go_at_call 20; refine (spec_good _ _ _ _).mono ?_; rintro e w' ⟨rfl, rfl⟩) | (go_at_call 24; refine (spec_in _ _ _ _).mono ?_; rintro e w' ⟨rfl, rfl⟩))
    go_ret2
    exact ⟨rfl, by repeat (first | exact Below.refl _ _ | refine Below.drew ?_ | refine Below.setCell ?_ (by simp; try omega) _ | refine Below.alloc ?_ (by simp; try omega) _)⟩
  obtain ⟨g0, g1, g2, g3, g4, g5⟩ := good_out hg
  by_cases h0 : -32768 ≤ n
  rotate_left
  · have k0 : n < -32768 := by omega
    have d0 : decide (-32768 ≤ n) = false := decide_eq_false h0
    have e0 : inR n (-32768) 32767 = false := inR_lt k0
    rw [show sdivB b m s n = false from sdivB_lt k0, show sdivV b m s n = 0 from sdivV_no (sdivB_lt k0)]
    clear h0
    go_enter Try.func10, Try.ntmps10
    go_wp2_with (first | (go_at_call 20; refine (spec_good _ _ _ _).mono ?_; rintro e w' ⟨rfl, rfl⟩) | (go_at_call 24; refine (spec_in _ _ _ _).mono ?_; rintro e w' ⟨rfl, rfl⟩))
    go_ret2
    exact ⟨rfl, by repeat (first | exact Below.refl _ _ | refine Below.drew ?_ | refine Below.setCell ?_ (by simp; try omega) _ | refine Below.alloc ?_ (by simp; try omega) _)⟩
  by_cases h1 : n ≤ 32767
  rotate_left
  · have k1 : 32767 < n := by omega
    have d1 : decide (n ≤ 32767) = false := decide_eq_false h1
    have e1 : inR n (-32768) 32767 = false := inR_gt k1
    rw [show sdivB b m s n = false from sdivB_gt k1, show sdivV b m s n = 0 from sdivV_no (sdivB_gt k1)]
    clear h1
    go_enter Try.func10, Try.ntmps10
    go_wp2_with (first | (go_at_call 20; refine (spec_good _ _ _ _).mono ?_; rintro e w' ⟨rfl, rfl⟩) | (go_at_call 24; refine (spec_in _ _ _ _).mono ?_; rintro e w' ⟨rfl, rfl⟩))
    go_ret2
    exact ⟨rfl, by repeat (first | exact Below.refl _ _ | refine Below.drew ?_ | refine Below.setCell ?_ (by simp; try omega) _ | refine Below.alloc ?_ (by simp; try omega) _)⟩
  have e2 : inR n (-32768) 32767 = true := inR_mk h0 h1
  by_cases hz : n < 0
  · rw [show sdivB b m s n = true from sdivB_mk hg h0 h1, show sdivV b m s n = -divW m s (-n) from sdivV_neg (sdivB_mk hg h0 h1) hz]
    obtain ⟨q0, q1⟩ := mag_div (n := -n) (s := s) (by omega) (by omega) g2 g3
    have u0 : 0 ≤ -n := by omega
    have u1 : -n ≤ 65535 := by omega
    go_enter Try.func10, Try.ntmps10
    go_wp2_with (first | (go_at_call 20; refine (spec_good _ _ _ _).mono ?_; rintro e w' ⟨rfl, rfl⟩) | (go_at_call 24; refine (spec_in _ _ _ _).mono ?_; rintro e w' ⟨rfl, rfl⟩) | (go_at_call 21; refine (spec_shifted _ _ _ _ _ g2 g3 g4 g5 u0 u1).mono ?_; rintro e w' ⟨rfl, rfl⟩))
    go_ret2
    exact ⟨rfl, by repeat (first | exact Below.refl _ _ | refine Below.drew ?_ | refine Below.setCell ?_ (by simp; try omega) _ | refine Below.alloc ?_ (by simp; try omega) _)⟩
  · have u0 : 0 ≤ n := by omega
    have u1 : n ≤ 65535 := by omega
    clear hz
    rw [show sdivB b m s n = true from sdivB_mk hg h0 h1, show sdivV b m s n = divW m s n from sdivV_pos (sdivB_mk hg h0 h1) u0]
    go_enter Try.func10, Try.ntmps10
    go_wp2_with (first | (go_at_call 20; refine (spec_good _ _ _ _).mono ?_; rintro e w' ⟨rfl, rfl⟩) | (go_at_call 24; refine (spec_in _ _ _ _).mono ?_; rintro e w' ⟨rfl, rfl⟩) | (go_at_call 21; refine (spec_shifted _ _ _ _ _ g2 g3 g4 g5 u0 u1).mono ?_; rintro e w' ⟨rfl, rfl⟩))
    go_ret2
    exact ⟨rfl, by repeat (first | exact Below.refl _ _ | refine Below.drew ?_ | refine Below.setCell ?_ (by simp; try omega) _ | refine Below.alloc ?_ (by simp; try omega) _)⟩
end Go.Proofs.Yteogabkfkfaejab.walks

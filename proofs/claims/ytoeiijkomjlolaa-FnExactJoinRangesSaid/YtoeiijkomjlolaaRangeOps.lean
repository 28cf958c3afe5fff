/-
  What two ranges join, meet and widen to, and what a step of two makes of them, of the program and of the specification; they make new memory alone.
-/
import Derived.Test.YtoeiijkomjlolaaProg
import Derived.Test.YtoeiijkomjlolaaRangeGood
import Derived.WalkKit
import Derived.WalkSpells
import Derived.Deep.RegionWith
import Derived.Deep.RegionHeld3
import Derived.Deep.DeepCutAuto
import Derived.Below
namespace Go.Proofs.Ytoeiijkomjlolaa.walks
open Go.RowKit Go.Proofs.Ytoeiijkomjlolaa.math
set_option linter.unusedVariables false
set_option linter.unusedSimpArgs false
theorem two_eq {x x' y y' : Int} (h : x = x') (k : y = y') : Ending.returned (.tuple #[.int .i64 x, .int .i64 y]) = .returned (.tuple #[.int .i64 x', .int .i64 y']) := by rw [h, k]

theorem spec_least (a b : Int) (W : World) : Calls Try.prog 76 #[.int .i64 a, .int .i64 b] W fun e W' => e = .returned (.int .i64 (leastI a b)) ∧ W' = W := by
  by_cases h : a < b
  · rw [show leastI a b = a from if_pos h]
    go_enter Try.func76, Try.ntmps76
    go_wp2
    go_ret
    exact ⟨rfl, rfl⟩
  · rw [show leastI a b = b from if_neg h]
    have d : decide (a < b) = false := decide_eq_false h
    go_enter Try.func76, Try.ntmps76
    go_wp2
    go_ret
    exact ⟨rfl, rfl⟩
theorem spec_most (a b : Int) (W : World) : Calls Try.prog 77 #[.int .i64 a, .int .i64 b] W fun e W' => e = .returned (.int .i64 (mostI a b)) ∧ W' = W := by
  by_cases h : b < a
  · rw [show mostI a b = a from if_pos h]
    go_enter Try.func77, Try.ntmps77
    go_wp2
    go_ret
    exact ⟨rfl, rfl⟩
  · rw [show mostI a b = b from if_neg h]
    have d : decide (b < a) = false := decide_eq_false h
    go_enter Try.func77, Try.ntmps77
    go_wp2
    go_ret
    exact ⟨rfl, rfl⟩

theorem impl_outer (a b c d : Int) (W : World) : Calls Try.prog 78 #[.int .i64 a, .int .i64 b, .int .i64 c, .int .i64 d] W fun e W' => e = .returned (.tuple #[.int .i64 (leastI a c), .int .i64 (mostI b d)]) ∧ W' = W := by
  rcases Int.lt_or_le a c with h | h <;> rcases Int.lt_or_le b d with k | k
  all_goals
    go_enter Try.func78, Try.ntmps78
    go_wp2
    all_goals
      go_ret2
      first | exact ⟨two_eq (x := a) (y := b) (by unfold leastI; split <;> omega) (by unfold mostI; split <;> omega), rfl⟩ | exact ⟨two_eq (x := a) (y := d) (by unfold leastI; split <;> omega) (by unfold mostI; split <;> omega), rfl⟩ | exact ⟨two_eq (x := c) (y := b) (by unfold leastI; split <;> omega) (by unfold mostI; split <;> omega), rfl⟩ | exact ⟨two_eq (x := c) (y := d) (by unfold leastI; split <;> omega) (by unfold mostI; split <;> omega), rfl⟩



set_option maxRecDepth 100000 in
set_option maxHeartbeats 2000000 in
theorem spec_join6 (f g : Rv) (W : World) : Calls Try.prog 58 #[.agg #[.bool f.e, .int .i64 f.lo, .int .i64 f.hi], .agg #[.bool g.e, .int .i64 g.lo, .int .i64 g.hi]] W fun e W' => e = .returned (joinR f g).val ∧ Below W.heap.size W W' := by
  obtain ⟨e, lo, hi⟩ := f
  obtain ⟨e', lo', hi'⟩ := g
  show Calls _ _ #[.agg #[.bool e, .int .i64 lo, .int .i64 hi], .agg #[.bool e', .int .i64 lo', .int .i64 hi']] W _
  cases e
  rotate_left
  · rw [show (joinR ⟨true, lo, hi⟩ ⟨e', lo', hi'⟩).val = .agg #[.bool e', .int .i64 lo', .int .i64 hi'] by simp [joinR, Rv.val]]
    go_enter Try.func58, Try.ntmps58
    go_wp2
    exact bodyPost_ret (v := .agg #[.bool e', .int .i64 lo', .int .i64 hi']) (by simp only [results, Try.results58]; go_simp) rfl ⟨rfl, by repeat (first | exact Below.refl _ _ | refine Below.drew ?_ | refine Below.setCell ?_ (by simp; try omega) _ | refine Below.alloc ?_ (by simp; try omega) _)⟩
  cases e'
  rotate_left
  · rw [show (joinR ⟨false, lo, hi⟩ ⟨true, lo', hi'⟩).val = .agg #[.bool false, .int .i64 lo, .int .i64 hi] by simp [joinR, Rv.val]]
    go_enter Try.func58, Try.ntmps58
    go_wp2
    exact bodyPost_ret (v := .agg #[.bool false, .int .i64 lo, .int .i64 hi]) (by simp only [results, Try.results58]; go_simp) rfl ⟨rfl, by repeat (first | exact Below.refl _ _ | refine Below.drew ?_ | refine Below.setCell ?_ (by simp; try omega) _ | refine Below.alloc ?_ (by simp; try omega) _)⟩
  rw [show (joinR ⟨false, lo, hi⟩ ⟨false, lo', hi'⟩).val = .agg #[.bool false, .int .i64 (leastI lo lo'), .int .i64 (mostI hi hi')] by simp [joinR, Rv.val]]
  go_enter Try.func58, Try.ntmps58
  go_upto_region 5 with fail
  go_region_held3 (fun w' => (w'.cell? ⟨W.heap.size, 0, none⟩ = some (.bool false) ∧ w'.cell? ⟨W.heap.size, 1, none⟩ = some (.int .i64 lo) ∧ w'.cell? ⟨W.heap.size, 2, none⟩ = some (.int .i64 hi)) ∧ w'.cell? ⟨W.heap.size + 1, 0, none⟩ = some (.bool false) ∧ w'.cell? ⟨W.heap.size + 1, 1, none⟩ = some (.int .i64 lo') ∧ w'.cell? ⟨W.heap.size + 1, 2, none⟩ = some (.int .i64 hi'))
    (first | assumption | go_keep | (refine ⟨⟨?_, ?_, ?_⟩, ?_, ?_, ?_⟩ <;> go_simp))
    (first | (go_at_call 76; refine (spec_least _ _ _).mono ?_; rintro e w' ⟨rfl, rfl⟩) | (go_at_call 77; refine (spec_most _ _ _).mono ?_; rintro e w' ⟨rfl, rfl⟩))
  go_wp2
  exact bodyPost_ret (v := .agg #[.bool false, .int .i64 (leastI lo lo'), .int .i64 (mostI hi hi')]) (by simp only [results, Try.results58]; go_simp) rfl ⟨rfl, by repeat (first | exact Below.refl _ _ | refine Below.drew ?_ | refine Below.setCell ?_ (by simp; try omega) _ | refine Below.alloc ?_ (by simp; try omega) _)⟩

set_option maxRecDepth 100000 in
set_option maxHeartbeats 2000000 in
theorem impl_join6 (f g : Rv) (W : World) : Calls Try.prog 60 #[.agg #[.bool f.e, .int .i64 f.lo, .int .i64 f.hi], .agg #[.bool g.e, .int .i64 g.lo, .int .i64 g.hi]] W fun e W' => e = .returned (joinR f g).val ∧ Below W.heap.size W W' := by
  obtain ⟨e, lo, hi⟩ := f
  obtain ⟨e', lo', hi'⟩ := g
  show Calls _ _ #[.agg #[.bool e, .int .i64 lo, .int .i64 hi], .agg #[.bool e', .int .i64 lo', .int .i64 hi']] W _
  cases e
  rotate_left
  · rw [show (joinR ⟨true, lo, hi⟩ ⟨e', lo', hi'⟩).val = .agg #[.bool e', .int .i64 lo', .int .i64 hi'] by simp [joinR, Rv.val]]
    go_enter Try.func60, Try.ntmps60
    go_wp2
    exact bodyPost_ret (v := .agg #[.bool e', .int .i64 lo', .int .i64 hi']) (by simp only [results, Try.results60]; go_simp) rfl ⟨rfl, by repeat (first | exact Below.refl _ _ | refine Below.drew ?_ | refine Below.setCell ?_ (by simp; try omega) _ | refine Below.alloc ?_ (by simp; try omega) _)⟩
  cases e'
  rotate_left
  · rw [show (joinR ⟨false, lo, hi⟩ ⟨true, lo', hi'⟩).val = .agg #[.bool false, .int .i64 lo, .int .i64 hi] by simp [joinR, Rv.val]]
    go_enter Try.func60, Try.ntmps60
    go_wp2
    exact bodyPost_ret (v := .agg #[.bool false, .int .i64 lo, .int .i64 hi]) (by simp only [results, Try.results60]; go_simp) rfl ⟨rfl, by repeat (first | exact Below.refl _ _ | refine Below.drew ?_ | refine Below.setCell ?_ (by simp; try omega) _ | refine Below.alloc ?_ (by simp; try omega) _)⟩
  rw [show (joinR ⟨false, lo, hi⟩ ⟨false, lo', hi'⟩).val = .agg #[.bool false, .int .i64 (leastI lo lo'), .int .i64 (mostI hi hi')] by simp [joinR, Rv.val]]
  go_enter Try.func60, Try.ntmps60
  go_wp2_with (first | (go_at_call 78; refine (impl_outer _ _ _ _ _).mono ?_; rintro e w' ⟨rfl, rfl⟩))
  exact bodyPost_ret (v := .agg #[.bool false, .int .i64 (leastI lo lo'), .int .i64 (mostI hi hi')]) (by simp only [results, Try.results60]; go_simp) rfl ⟨rfl, by repeat (first | exact Below.refl _ _ | refine Below.drew ?_ | refine Below.setCell ?_ (by simp; try omega) _ | refine Below.alloc ?_ (by simp; try omega) _)⟩





end Go.Proofs.Ytoeiijkomjlolaa.walks

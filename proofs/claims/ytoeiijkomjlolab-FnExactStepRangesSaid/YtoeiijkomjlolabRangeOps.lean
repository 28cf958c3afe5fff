/-
  What two ranges join, meet and widen to, and what a step of two makes of them, of the program and of the specification; they make new memory alone.
-/
import Derived.Test.YtoeiijkomjlolabProg
import Derived.Test.YtoeiijkomjlolabRangeGood
import Derived.WalkKit
import Derived.WalkSpells
import Derived.Deep.RegionWith
import Derived.Deep.RegionHeld3
import Derived.Deep.DeepCutAuto
import Derived.Below
namespace Go.Proofs.Ytoeiijkomjlolab.walks
open Go.RowKit Go.Proofs.Ytoeiijkomjlolab.math
set_option linter.unusedVariables false
set_option linter.unusedSimpArgs false
theorem two_eq {x x' y y' : Int} (h : x = x') (k : y = y') : Ending.returned (.tuple #[.int .i64 x, .int .i64 y]) = .returned (.tuple #[.int .i64 x', .int .i64 y']) := by rw [h, k]

theorem spec_least (a b : Int) (W : World) : Calls Try.prog 68 #[.int .i64 a, .int .i64 b] W fun e W' => e = .returned (.int .i64 (leastI a b)) ∧ W' = W := by
  by_cases h : a < b
  · rw [show leastI a b = a from if_pos h]
    go_enter Try.func68, Try.ntmps68
    go_wp2
    go_ret
    exact ⟨rfl, rfl⟩
  · rw [show leastI a b = b from if_neg h]
    have d : decide (a < b) = false := decide_eq_false h
    go_enter Try.func68, Try.ntmps68
    go_wp2
    go_ret
    exact ⟨rfl, rfl⟩
theorem spec_most (a b : Int) (W : World) : Calls Try.prog 67 #[.int .i64 a, .int .i64 b] W fun e W' => e = .returned (.int .i64 (mostI a b)) ∧ W' = W := by
  by_cases h : b < a
  · rw [show mostI a b = a from if_pos h]
    go_enter Try.func67, Try.ntmps67
    go_wp2
    go_ret
    exact ⟨rfl, rfl⟩
  · rw [show mostI a b = b from if_neg h]
    have d : decide (b < a) = false := decide_eq_false h
    go_enter Try.func67, Try.ntmps67
    go_wp2
    go_ret
    exact ⟨rfl, rfl⟩

theorem impl_outer (a b c d : Int) (W : World) : Calls Try.prog 92 #[.int .i64 a, .int .i64 b, .int .i64 c, .int .i64 d] W fun e W' => e = .returned (.tuple #[.int .i64 (leastI a c), .int .i64 (mostI b d)]) ∧ W' = W := by
  rcases Int.lt_or_le a c with h | h <;> rcases Int.lt_or_le b d with k | k
  all_goals
    go_enter Try.func92, Try.ntmps92
    go_wp2
    all_goals
      go_ret2
      first | exact ⟨two_eq (x := a) (y := b) (by unfold leastI; split <;> omega) (by unfold mostI; split <;> omega), rfl⟩ | exact ⟨two_eq (x := a) (y := d) (by unfold leastI; split <;> omega) (by unfold mostI; split <;> omega), rfl⟩ | exact ⟨two_eq (x := c) (y := b) (by unfold leastI; split <;> omega) (by unfold mostI; split <;> omega), rfl⟩ | exact ⟨two_eq (x := c) (y := d) (by unfold leastI; split <;> omega) (by unfold mostI; split <;> omega), rfl⟩

theorem impl_inner (a b c d : Int) (W : World) : Calls Try.prog 70 #[.int .i64 a, .int .i64 b, .int .i64 c, .int .i64 d] W fun e W' => e = .returned (.tuple #[.int .i64 (mostI a c), .int .i64 (leastI b d)]) ∧ W' = W := by
  rcases Int.lt_or_le a c with h | h <;> rcases Int.lt_or_le b d with k | k
  all_goals
    go_enter Try.func70, Try.ntmps70
    go_wp2
    all_goals
      go_ret2
      first | exact ⟨two_eq (x := a) (y := b) (by unfold mostI; split <;> omega) (by unfold leastI; split <;> omega), rfl⟩ | exact ⟨two_eq (x := a) (y := d) (by unfold mostI; split <;> omega) (by unfold leastI; split <;> omega), rfl⟩ | exact ⟨two_eq (x := c) (y := b) (by unfold mostI; split <;> omega) (by unfold leastI; split <;> omega), rfl⟩ | exact ⟨two_eq (x := c) (y := d) (by unfold mostI; split <;> omega) (by unfold leastI; split <;> omega), rfl⟩

theorem impl_open (a b c d x y : Int) (W : World) : Calls Try.prog 72 #[.int .i64 a, .int .i64 b, .int .i64 c, .int .i64 d, .int .i64 x, .int .i64 y] W fun e W' => e = .returned (.tuple #[.int .i64 (if c < a then x else a), .int .i64 (if b < d then y else b)]) ∧ Below W.heap.size W W' := by
  by_cases h : c < a <;> by_cases k : b < d
  · rw [if_pos h, if_pos k]
    go_enter Try.func72, Try.ntmps72
    go_wp2
    go_ret2
    exact ⟨rfl, by repeat (first | exact Below.refl _ _ | refine Below.drew ?_ | refine Below.setCell ?_ (by simp; try omega) _ | refine Below.alloc ?_ (by simp; try omega) _)⟩
  · have k' : decide (b < d) = false := decide_eq_false k
    rw [if_pos h, if_neg k]
    go_enter Try.func72, Try.ntmps72
    go_wp2
    go_ret2
    exact ⟨rfl, by repeat (first | exact Below.refl _ _ | refine Below.drew ?_ | refine Below.setCell ?_ (by simp; try omega) _ | refine Below.alloc ?_ (by simp; try omega) _)⟩
  · have h' : decide (c < a) = false := decide_eq_false h
    rw [if_neg h, if_pos k]
    go_enter Try.func72, Try.ntmps72
    go_wp2
    go_ret2
    exact ⟨rfl, by repeat (first | exact Below.refl _ _ | refine Below.drew ?_ | refine Below.setCell ?_ (by simp; try omega) _ | refine Below.alloc ?_ (by simp; try omega) _)⟩
  · have h' : decide (c < a) = false := decide_eq_false h
    have k' : decide (b < d) = false := decide_eq_false k
    rw [if_neg h, if_neg k]
    go_enter Try.func72, Try.ntmps72
    go_wp2
    go_ret2
    exact ⟨rfl, by repeat (first | exact Below.refl _ _ | refine Below.drew ?_ | refine Below.setCell ?_ (by simp; try omega) _ | refine Below.alloc ?_ (by simp; try omega) _)⟩

set_option maxRecDepth 100000 in
set_option maxHeartbeats 2000000 in
theorem spec_join6 (f g : Rv) (W : World) : Calls Try.prog 82 #[.agg #[.bool f.e, .int .i64 f.lo, .int .i64 f.hi], .agg #[.bool g.e, .int .i64 g.lo, .int .i64 g.hi]] W fun e W' => e = .returned (joinR f g).val ∧ Below W.heap.size W W' := by
  obtain ⟨e, lo, hi⟩ := f
  obtain ⟨e', lo', hi'⟩ := g
  show Calls _ _ #[.agg #[.bool e, .int .i64 lo, .int .i64 hi], .agg #[.bool e', .int .i64 lo', .int .i64 hi']] W _
  cases e
  rotate_left
  · rw [show (joinR ⟨true, lo, hi⟩ ⟨e', lo', hi'⟩).val = .agg #[.bool e', .int .i64 lo', .int .i64 hi'] by simp [joinR, Rv.val]]
    go_enter Try.func82, Try.ntmps82
    go_wp2
    exact bodyPost_ret (v := .agg #[.bool e', .int .i64 lo', .int .i64 hi']) (by simp only [results, Try.results82]; go_simp) rfl ⟨rfl, by repeat (first | exact Below.refl _ _ | refine Below.drew ?_ | refine Below.setCell ?_ (by simp; try omega) _ | refine Below.alloc ?_ (by simp; try omega) _)⟩
  cases e'
  rotate_left
  · rw [show (joinR ⟨false, lo, hi⟩ ⟨true, lo', hi'⟩).val = .agg #[.bool false, .int .i64 lo, .int .i64 hi] by simp [joinR, Rv.val]]
    go_enter Try.func82, Try.ntmps82
    go_wp2
    exact bodyPost_ret (v := .agg #[.bool false, .int .i64 lo, .int .i64 hi]) (by simp only [results, Try.results82]; go_simp) rfl ⟨rfl, by repeat (first | exact Below.refl _ _ | refine Below.drew ?_ | refine Below.setCell ?_ (by simp; try omega) _ | refine Below.alloc ?_ (by simp; try omega) _)⟩
  rw [show (joinR ⟨false, lo, hi⟩ ⟨false, lo', hi'⟩).val = .agg #[.bool false, .int .i64 (leastI lo lo'), .int .i64 (mostI hi hi')] by simp [joinR, Rv.val]]
  go_enter Try.func82, Try.ntmps82
  go_upto_region 5 with fail
  go_region_held3 (fun w' => (w'.cell? ⟨W.heap.size, 0, none⟩ = some (.bool false) ∧ w'.cell? ⟨W.heap.size, 1, none⟩ = some (.int .i64 lo) ∧ w'.cell? ⟨W.heap.size, 2, none⟩ = some (.int .i64 hi)) ∧ w'.cell? ⟨W.heap.size + 1, 0, none⟩ = some (.bool false) ∧ w'.cell? ⟨W.heap.size + 1, 1, none⟩ = some (.int .i64 lo') ∧ w'.cell? ⟨W.heap.size + 1, 2, none⟩ = some (.int .i64 hi'))
    (first | assumption | go_keep | (refine ⟨⟨?_, ?_, ?_⟩, ?_, ?_, ?_⟩ <;> go_simp))
    (first | (go_at_call 68; refine (spec_least _ _ _).mono ?_; rintro e w' ⟨rfl, rfl⟩) | (go_at_call 67; refine (spec_most _ _ _).mono ?_; rintro e w' ⟨rfl, rfl⟩))
  go_wp2
  exact bodyPost_ret (v := .agg #[.bool false, .int .i64 (leastI lo lo'), .int .i64 (mostI hi hi')]) (by simp only [results, Try.results82]; go_simp) rfl ⟨rfl, by repeat (first | exact Below.refl _ _ | refine Below.drew ?_ | refine Below.setCell ?_ (by simp; try omega) _ | refine Below.alloc ?_ (by simp; try omega) _)⟩

set_option maxRecDepth 100000 in
set_option maxHeartbeats 2000000 in
theorem impl_join6 (f g : Rv) (W : World) : Calls Try.prog 91 #[.agg #[.bool f.e, .int .i64 f.lo, .int .i64 f.hi], .agg #[.bool g.e, .int .i64 g.lo, .int .i64 g.hi]] W fun e W' => e = .returned (joinR f g).val ∧ Below W.heap.size W W' := by
  obtain ⟨e, lo, hi⟩ := f
  obtain ⟨e', lo', hi'⟩ := g
  show Calls _ _ #[.agg #[.bool e, .int .i64 lo, .int .i64 hi], .agg #[.bool e', .int .i64 lo', .int .i64 hi']] W _
  cases e
  rotate_left
  · rw [show (joinR ⟨true, lo, hi⟩ ⟨e', lo', hi'⟩).val = .agg #[.bool e', .int .i64 lo', .int .i64 hi'] by simp [joinR, Rv.val]]
    go_enter Try.func91, Try.ntmps91
    go_wp2
    exact bodyPost_ret (v := .agg #[.bool e', .int .i64 lo', .int .i64 hi']) (by simp only [results, Try.results91]; go_simp) rfl ⟨rfl, by repeat (first | exact Below.refl _ _ | refine Below.drew ?_ | refine Below.setCell ?_ (by simp; try omega) _ | refine Below.alloc ?_ (by simp; try omega) _)⟩
  cases e'
  rotate_left
  · rw [show (joinR ⟨false, lo, hi⟩ ⟨true, lo', hi'⟩).val = .agg #[.bool false, .int .i64 lo, .int .i64 hi] by simp [joinR, Rv.val]]
    go_enter Try.func91, Try.ntmps91
    go_wp2
    exact bodyPost_ret (v := .agg #[.bool false, .int .i64 lo, .int .i64 hi]) (by simp only [results, Try.results91]; go_simp) rfl ⟨rfl, by repeat (first | exact Below.refl _ _ | refine Below.drew ?_ | refine Below.setCell ?_ (by simp; try omega) _ | refine Below.alloc ?_ (by simp; try omega) _)⟩
  rw [show (joinR ⟨false, lo, hi⟩ ⟨false, lo', hi'⟩).val = .agg #[.bool false, .int .i64 (leastI lo lo'), .int .i64 (mostI hi hi')] by simp [joinR, Rv.val]]
  go_enter Try.func91, Try.ntmps91
  go_wp2_with (first | (go_at_call 92; refine (impl_outer _ _ _ _ _).mono ?_; rintro e w' ⟨rfl, rfl⟩))
  exact bodyPost_ret (v := .agg #[.bool false, .int .i64 (leastI lo lo'), .int .i64 (mostI hi hi')]) (by simp only [results, Try.results91]; go_simp) rfl ⟨rfl, by repeat (first | exact Below.refl _ _ | refine Below.drew ?_ | refine Below.setCell ?_ (by simp; try omega) _ | refine Below.alloc ?_ (by simp; try omega) _)⟩

set_option maxRecDepth 100000 in
set_option maxHeartbeats 2000000 in
theorem spec_widen6 (f g : Rv) (W : World) : Calls Try.prog 43 #[.agg #[.bool f.e, .int .i64 f.lo, .int .i64 f.hi], .agg #[.bool g.e, .int .i64 g.lo, .int .i64 g.hi]] W fun e W' => e = .returned (widenR f g).val ∧ Below W.heap.size W W' := by
  obtain ⟨e, lo, hi⟩ := f
  obtain ⟨e', lo', hi'⟩ := g
  show Calls _ _ #[.agg #[.bool e, .int .i64 lo, .int .i64 hi], .agg #[.bool e', .int .i64 lo', .int .i64 hi']] W _
  cases e
  rotate_left
  · rw [show (widenR ⟨true, lo, hi⟩ ⟨e', lo', hi'⟩).val = .agg #[.bool e', .int .i64 lo', .int .i64 hi'] by simp [widenR, Rv.val]]
    go_enter Try.func43, Try.ntmps43
    go_wp2
    exact bodyPost_ret (v := .agg #[.bool e', .int .i64 lo', .int .i64 hi']) (by simp only [results, Try.results43]; go_simp) rfl ⟨rfl, by repeat (first | exact Below.refl _ _ | refine Below.drew ?_ | refine Below.setCell ?_ (by simp; try omega) _ | refine Below.alloc ?_ (by simp; try omega) _)⟩
  cases e'
  rotate_left
  · rw [show (widenR ⟨false, lo, hi⟩ ⟨true, lo', hi'⟩).val = .agg #[.bool false, .int .i64 lo, .int .i64 hi] by simp [widenR, Rv.val]]
    go_enter Try.func43, Try.ntmps43
    go_wp2
    exact bodyPost_ret (v := .agg #[.bool false, .int .i64 lo, .int .i64 hi]) (by simp only [results, Try.results43]; go_simp) rfl ⟨rfl, by repeat (first | exact Below.refl _ _ | refine Below.drew ?_ | refine Below.setCell ?_ (by simp; try omega) _ | refine Below.alloc ?_ (by simp; try omega) _)⟩
  rcases Int.lt_or_le lo' lo with h | h <;> rcases Int.lt_or_le hi hi' with k | k
  · rw [show (widenR ⟨false, lo, hi⟩ ⟨false, lo', hi'⟩).val = .agg #[.bool false, .int .i64 0, .int .i64 65535] by simp only [widenR, Rv.val, Bool.false_eq_true, if_false]; rw [if_pos h, if_pos k]]
    go_enter Try.func43, Try.ntmps43
    go_wp2
    exact bodyPost_ret (v := .agg #[.bool false, .int .i64 0, .int .i64 65535]) (by simp only [results, Try.results43]; go_simp) rfl ⟨rfl, by repeat (first | exact Below.refl _ _ | refine Below.drew ?_ | refine Below.setCell ?_ (by simp; try omega) _ | refine Below.alloc ?_ (by simp; try omega) _)⟩
  · rw [show (widenR ⟨false, lo, hi⟩ ⟨false, lo', hi'⟩).val = .agg #[.bool false, .int .i64 0, .int .i64 hi] by simp only [widenR, Rv.val, Bool.false_eq_true, if_false]; rw [if_pos h, if_neg (show ¬ hi < hi' by omega)]]
    have k' : decide (hi < hi') = false := decide_eq_false (by omega)
    go_enter Try.func43, Try.ntmps43
    go_wp2
    exact bodyPost_ret (v := .agg #[.bool false, .int .i64 0, .int .i64 hi]) (by simp only [results, Try.results43]; go_simp) rfl ⟨rfl, by repeat (first | exact Below.refl _ _ | refine Below.drew ?_ | refine Below.setCell ?_ (by simp; try omega) _ | refine Below.alloc ?_ (by simp; try omega) _)⟩
  · rw [show (widenR ⟨false, lo, hi⟩ ⟨false, lo', hi'⟩).val = .agg #[.bool false, .int .i64 lo, .int .i64 65535] by simp only [widenR, Rv.val, Bool.false_eq_true, if_false]; rw [if_neg (show ¬ lo' < lo by omega), if_pos k]]
    have h' : decide (lo' < lo) = false := decide_eq_false (by omega)
    go_enter Try.func43, Try.ntmps43
    go_wp2
    exact bodyPost_ret (v := .agg #[.bool false, .int .i64 lo, .int .i64 65535]) (by simp only [results, Try.results43]; go_simp) rfl ⟨rfl, by repeat (first | exact Below.refl _ _ | refine Below.drew ?_ | refine Below.setCell ?_ (by simp; try omega) _ | refine Below.alloc ?_ (by simp; try omega) _)⟩
  · rw [show (widenR ⟨false, lo, hi⟩ ⟨false, lo', hi'⟩).val = .agg #[.bool false, .int .i64 lo, .int .i64 hi] by simp only [widenR, Rv.val, Bool.false_eq_true, if_false]; rw [if_neg (show ¬ lo' < lo by omega), if_neg (show ¬ hi < hi' by omega)]]
    have h' : decide (lo' < lo) = false := decide_eq_false (by omega)
    have k' : decide (hi < hi') = false := decide_eq_false (by omega)
    go_enter Try.func43, Try.ntmps43
    go_wp2
    exact bodyPost_ret (v := .agg #[.bool false, .int .i64 lo, .int .i64 hi]) (by simp only [results, Try.results43]; go_simp) rfl ⟨rfl, by repeat (first | exact Below.refl _ _ | refine Below.drew ?_ | refine Below.setCell ?_ (by simp; try omega) _ | refine Below.alloc ?_ (by simp; try omega) _)⟩

set_option maxRecDepth 100000 in
set_option maxHeartbeats 2000000 in
theorem impl_widen6 (f g : Rv) (W : World) : Calls Try.prog 44 #[.agg #[.bool f.e, .int .i64 f.lo, .int .i64 f.hi], .agg #[.bool g.e, .int .i64 g.lo, .int .i64 g.hi]] W fun e W' => e = .returned (widenR f g).val ∧ Below W.heap.size W W' := by
  obtain ⟨e, lo, hi⟩ := f
  obtain ⟨e', lo', hi'⟩ := g
  show Calls _ _ #[.agg #[.bool e, .int .i64 lo, .int .i64 hi], .agg #[.bool e', .int .i64 lo', .int .i64 hi']] W _
  cases e
  rotate_left
  · rw [show (widenR ⟨true, lo, hi⟩ ⟨e', lo', hi'⟩).val = .agg #[.bool e', .int .i64 lo', .int .i64 hi'] by simp [widenR, Rv.val]]
    go_enter Try.func44, Try.ntmps44
    go_wp2
    exact bodyPost_ret (v := .agg #[.bool e', .int .i64 lo', .int .i64 hi']) (by simp only [results, Try.results44]; go_simp) rfl ⟨rfl, by repeat (first | exact Below.refl _ _ | refine Below.drew ?_ | refine Below.setCell ?_ (by simp; try omega) _ | refine Below.alloc ?_ (by simp; try omega) _)⟩
  cases e'
  rotate_left
  · rw [show (widenR ⟨false, lo, hi⟩ ⟨true, lo', hi'⟩).val = .agg #[.bool false, .int .i64 lo, .int .i64 hi] by simp [widenR, Rv.val]]
    go_enter Try.func44, Try.ntmps44
    go_wp2
    exact bodyPost_ret (v := .agg #[.bool false, .int .i64 lo, .int .i64 hi]) (by simp only [results, Try.results44]; go_simp) rfl ⟨rfl, by repeat (first | exact Below.refl _ _ | refine Below.drew ?_ | refine Below.setCell ?_ (by simp; try omega) _ | refine Below.alloc ?_ (by simp; try omega) _)⟩
  rcases Int.lt_or_le lo' lo with h | h <;> rcases Int.lt_or_le hi hi' with k | k
  · rw [show (widenR ⟨false, lo, hi⟩ ⟨false, lo', hi'⟩).val = .agg #[.bool false, .int .i64 0, .int .i64 65535] by simp only [widenR, Rv.val, Bool.false_eq_true, if_false]; rw [if_pos h, if_pos k]]
    have P : ∀ W', Calls Try.prog 72 #[.int .i64 lo, .int .i64 hi, .int .i64 lo', .int .i64 hi', .int .i64 0, .int .i64 65535] W' fun e W'' => e = .returned (.tuple #[.int .i64 0, .int .i64 65535]) ∧ Below W'.heap.size W' W'' := fun W' => by have q := impl_open lo hi lo' hi' 0 65535 W'; rw [if_pos h, if_pos k] at q; exact q
    go_enter Try.func44, Try.ntmps44
    go_wp2_with (first | (go_at_call 72; refine (P _).mono ?_; rintro e w' ⟨rfl, B1⟩; obtain ⟨c1, y1⟩ := bcellR B1))
    exact bodyPost_ret (v := .agg #[.bool false, .int .i64 0, .int .i64 65535]) (by simp only [results, Try.results44]; go_simp) rfl ⟨rfl, by refine Below.trans (belR (by repeat (first | exact Below.refl _ _ | refine Below.drew ?_ | refine Below.setCell ?_ (by simp; try omega) _ | refine Below.alloc ?_ (by simp; try omega) _)) B1) ?_; repeat (first | exact Below.refl _ _ | refine Below.drew ?_ | refine Below.setCell ?_ (by simp; try omega) _ | refine Below.alloc ?_ (by simp; try omega) _)⟩
  · rw [show (widenR ⟨false, lo, hi⟩ ⟨false, lo', hi'⟩).val = .agg #[.bool false, .int .i64 0, .int .i64 hi] by simp only [widenR, Rv.val, Bool.false_eq_true, if_false]; rw [if_pos h, if_neg (show ¬ hi < hi' by omega)]]
    have k' : decide (hi < hi') = false := decide_eq_false (by omega)
    have P : ∀ W', Calls Try.prog 72 #[.int .i64 lo, .int .i64 hi, .int .i64 lo', .int .i64 hi', .int .i64 0, .int .i64 65535] W' fun e W'' => e = .returned (.tuple #[.int .i64 0, .int .i64 hi]) ∧ Below W'.heap.size W' W'' := fun W' => by have q := impl_open lo hi lo' hi' 0 65535 W'; rw [if_pos h, if_neg (show ¬ hi < hi' by omega)] at q; exact q
    go_enter Try.func44, Try.ntmps44
    go_wp2_with (first | (go_at_call 72; refine (P _).mono ?_; rintro e w' ⟨rfl, B1⟩; obtain ⟨c1, y1⟩ := bcellR B1))
    exact bodyPost_ret (v := .agg #[.bool false, .int .i64 0, .int .i64 hi]) (by simp only [results, Try.results44]; go_simp) rfl ⟨rfl, by refine Below.trans (belR (by repeat (first | exact Below.refl _ _ | refine Below.drew ?_ | refine Below.setCell ?_ (by simp; try omega) _ | refine Below.alloc ?_ (by simp; try omega) _)) B1) ?_; repeat (first | exact Below.refl _ _ | refine Below.drew ?_ | refine Below.setCell ?_ (by simp; try omega) _ | refine Below.alloc ?_ (by simp; try omega) _)⟩
  · rw [show (widenR ⟨false, lo, hi⟩ ⟨false, lo', hi'⟩).val = .agg #[.bool false, .int .i64 lo, .int .i64 65535] by simp only [widenR, Rv.val, Bool.false_eq_true, if_false]; rw [if_neg (show ¬ lo' < lo by omega), if_pos k]]
    have h' : decide (lo' < lo) = false := decide_eq_false (by omega)
    have P : ∀ W', Calls Try.prog 72 #[.int .i64 lo, .int .i64 hi, .int .i64 lo', .int .i64 hi', .int .i64 0, .int .i64 65535] W' fun e W'' => e = .returned (.tuple #[.int .i64 lo, .int .i64 65535]) ∧ Below W'.heap.size W' W'' := fun W' => by have q := impl_open lo hi lo' hi' 0 65535 W'; rw [if_neg (show ¬ lo' < lo by omega), if_pos k] at q; exact q
    go_enter Try.func44, Try.ntmps44
    go_wp2_with (first | (go_at_call 72; refine (P _).mono ?_; rintro e w' ⟨rfl, B1⟩; obtain ⟨c1, y1⟩ := bcellR B1))
    exact bodyPost_ret (v := .agg #[.bool false, .int .i64 lo, .int .i64 65535]) (by simp only [results, Try.results44]; go_simp) rfl ⟨rfl, by refine Below.trans (belR (by repeat (first | exact Below.refl _ _ | refine Below.drew ?_ | refine Below.setCell ?_ (by simp; try omega) _ | refine Below.alloc ?_ (by simp; try omega) _)) B1) ?_; repeat (first | exact Below.refl _ _ | refine Below.drew ?_ | refine Below.setCell ?_ (by simp; try omega) _ | refine Below.alloc ?_ (by simp; try omega) _)⟩
  · rw [show (widenR ⟨false, lo, hi⟩ ⟨false, lo', hi'⟩).val = .agg #[.bool false, .int .i64 lo, .int .i64 hi] by simp only [widenR, Rv.val, Bool.false_eq_true, if_false]; rw [if_neg (show ¬ lo' < lo by omega), if_neg (show ¬ hi < hi' by omega)]]
    have h' : decide (lo' < lo) = false := decide_eq_false (by omega)
    have k' : decide (hi < hi') = false := decide_eq_false (by omega)
    have P : ∀ W', Calls Try.prog 72 #[.int .i64 lo, .int .i64 hi, .int .i64 lo', .int .i64 hi', .int .i64 0, .int .i64 65535] W' fun e W'' => e = .returned (.tuple #[.int .i64 lo, .int .i64 hi]) ∧ Below W'.heap.size W' W'' := fun W' => by have q := impl_open lo hi lo' hi' 0 65535 W'; rw [if_neg (show ¬ lo' < lo by omega), if_neg (show ¬ hi < hi' by omega)] at q; exact q
    go_enter Try.func44, Try.ntmps44
    go_wp2_with (first | (go_at_call 72; refine (P _).mono ?_; rintro e w' ⟨rfl, B1⟩; obtain ⟨c1, y1⟩ := bcellR B1))
    exact bodyPost_ret (v := .agg #[.bool false, .int .i64 lo, .int .i64 hi]) (by simp only [results, Try.results44]; go_simp) rfl ⟨rfl, by refine Below.trans (belR (by repeat (first | exact Below.refl _ _ | refine Below.drew ?_ | refine Below.setCell ?_ (by simp; try omega) _ | refine Below.alloc ?_ (by simp; try omega) _)) B1) ?_; repeat (first | exact Below.refl _ _ | refine Below.drew ?_ | refine Below.setCell ?_ (by simp; try omega) _ | refine Below.alloc ?_ (by simp; try omega) _)⟩

set_option maxRecDepth 100000 in
set_option maxHeartbeats 2000000 in
theorem spec_meet6 (f g : Rv) (W : World) : Calls Try.prog 40 #[.agg #[.bool f.e, .int .i64 f.lo, .int .i64 f.hi], .agg #[.bool g.e, .int .i64 g.lo, .int .i64 g.hi]] W fun e W' => e = .returned (meetR f g).val ∧ Below W.heap.size W W' := by
  obtain ⟨e, lo, hi⟩ := f
  obtain ⟨e', lo', hi'⟩ := g
  show Calls _ _ #[.agg #[.bool e, .int .i64 lo, .int .i64 hi], .agg #[.bool e', .int .i64 lo', .int .i64 hi']] W _
  cases e
  rotate_left
  · rw [show (meetR ⟨true, lo, hi⟩ ⟨e', lo', hi'⟩).val = .agg #[.bool true, .int .i64 0, .int .i64 0] by simp [meetR, Rv.val, noneR]]
    go_enter Try.func40, Try.ntmps40
    go_upto_region 1 with fail
    go_region_held3 (fun w' => (w'.cell? ⟨W.heap.size, 0, none⟩ = some (.bool true) ∧ w'.cell? ⟨W.heap.size, 1, none⟩ = some (.int .i64 lo) ∧ w'.cell? ⟨W.heap.size, 2, none⟩ = some (.int .i64 hi)) ∧ w'.cell? ⟨W.heap.size + 1, 0, none⟩ = some (.bool e') ∧ w'.cell? ⟨W.heap.size + 1, 1, none⟩ = some (.int .i64 lo') ∧ w'.cell? ⟨W.heap.size + 1, 2, none⟩ = some (.int .i64 hi'))
      (first | assumption | go_keep | (refine ⟨⟨?_, ?_, ?_⟩, ?_, ?_, ?_⟩ <;> go_simp))
      (first | (go_at_call 68; refine (spec_least _ _ _).mono ?_; rintro e w' ⟨rfl, rfl⟩) | (go_at_call 67; refine (spec_most _ _ _).mono ?_; rintro e w' ⟨rfl, rfl⟩))
    go_wp2
    all_goals
    exact bodyPost_ret (v := .agg #[.bool true, .int .i64 0, .int .i64 0]) (by simp only [results, Try.results40]; go_simp) rfl ⟨rfl, by repeat (first | exact Below.refl _ _ | refine Below.drew ?_ | refine Below.setCell ?_ (by simp; try omega) _ | refine Below.alloc ?_ (by simp; try omega) _)⟩
  cases e'
  rotate_left
  · rw [show (meetR ⟨false, lo, hi⟩ ⟨true, lo', hi'⟩).val = .agg #[.bool true, .int .i64 0, .int .i64 0] by simp [meetR, Rv.val, noneR]]
    go_enter Try.func40, Try.ntmps40
    go_upto_region 1 with fail
    go_region_held3 (fun w' => (w'.cell? ⟨W.heap.size, 0, none⟩ = some (.bool false) ∧ w'.cell? ⟨W.heap.size, 1, none⟩ = some (.int .i64 lo) ∧ w'.cell? ⟨W.heap.size, 2, none⟩ = some (.int .i64 hi)) ∧ w'.cell? ⟨W.heap.size + 1, 0, none⟩ = some (.bool true) ∧ w'.cell? ⟨W.heap.size + 1, 1, none⟩ = some (.int .i64 lo') ∧ w'.cell? ⟨W.heap.size + 1, 2, none⟩ = some (.int .i64 hi'))
      (first | assumption | go_keep | (refine ⟨⟨?_, ?_, ?_⟩, ?_, ?_, ?_⟩ <;> go_simp))
      (first | (go_at_call 68; refine (spec_least _ _ _).mono ?_; rintro e w' ⟨rfl, rfl⟩) | (go_at_call 67; refine (spec_most _ _ _).mono ?_; rintro e w' ⟨rfl, rfl⟩))
    go_wp2
    all_goals
    exact bodyPost_ret (v := .agg #[.bool true, .int .i64 0, .int .i64 0]) (by simp only [results, Try.results40]; go_simp) rfl ⟨rfl, by repeat (first | exact Below.refl _ _ | refine Below.drew ?_ | refine Below.setCell ?_ (by simp; try omega) _ | refine Below.alloc ?_ (by simp; try omega) _)⟩
  by_cases h : leastI hi hi' < mostI lo lo'
  · rw [show (meetR ⟨false, lo, hi⟩ ⟨false, lo', hi'⟩).val = .agg #[.bool true, .int .i64 0, .int .i64 0] by rw [meetR, if_pos (Or.inr (Or.inr h))]; rfl]
    go_enter Try.func40, Try.ntmps40
    go_upto_region 1 with fail
    go_region_held3 (fun w' => (w'.cell? ⟨W.heap.size, 0, none⟩ = some (.bool false) ∧ w'.cell? ⟨W.heap.size, 1, none⟩ = some (.int .i64 lo) ∧ w'.cell? ⟨W.heap.size, 2, none⟩ = some (.int .i64 hi)) ∧ w'.cell? ⟨W.heap.size + 1, 0, none⟩ = some (.bool false) ∧ w'.cell? ⟨W.heap.size + 1, 1, none⟩ = some (.int .i64 lo') ∧ w'.cell? ⟨W.heap.size + 1, 2, none⟩ = some (.int .i64 hi'))
      (first | assumption | go_keep | (refine ⟨⟨?_, ?_, ?_⟩, ?_, ?_, ?_⟩ <;> go_simp))
      (first | (go_at_call 68; refine (spec_least _ _ _).mono ?_; rintro e w' ⟨rfl, rfl⟩) | (go_at_call 67; refine (spec_most _ _ _).mono ?_; rintro e w' ⟨rfl, rfl⟩))
    go_wp2
    all_goals
    exact bodyPost_ret (v := .agg #[.bool true, .int .i64 0, .int .i64 0]) (by simp only [results, Try.results40]; go_simp) rfl ⟨rfl, by repeat (first | exact Below.refl _ _ | refine Below.drew ?_ | refine Below.setCell ?_ (by simp; try omega) _ | refine Below.alloc ?_ (by simp; try omega) _)⟩
  · rw [show (meetR ⟨false, lo, hi⟩ ⟨false, lo', hi'⟩).val = .agg #[.bool false, .int .i64 (mostI lo lo'), .int .i64 (leastI hi hi')] by rw [meetR, if_neg (by simp; omega)]; rfl]
    have h' : decide (leastI hi hi' < mostI lo lo') = false := decide_eq_false h
    have h'' : mostI lo lo' ≤ leastI hi hi' := by omega
    clear h
    go_enter Try.func40, Try.ntmps40
    go_upto_region 1 with fail
    go_region_held3 (fun w' => (w'.cell? ⟨W.heap.size, 0, none⟩ = some (.bool false) ∧ w'.cell? ⟨W.heap.size, 1, none⟩ = some (.int .i64 lo) ∧ w'.cell? ⟨W.heap.size, 2, none⟩ = some (.int .i64 hi)) ∧ w'.cell? ⟨W.heap.size + 1, 0, none⟩ = some (.bool false) ∧ w'.cell? ⟨W.heap.size + 1, 1, none⟩ = some (.int .i64 lo') ∧ w'.cell? ⟨W.heap.size + 1, 2, none⟩ = some (.int .i64 hi'))
      (first | assumption | go_keep | (refine ⟨⟨?_, ?_, ?_⟩, ?_, ?_, ?_⟩ <;> go_simp))
      (first | (go_at_call 68; refine (spec_least _ _ _).mono ?_; rintro e w' ⟨rfl, rfl⟩) | (go_at_call 67; refine (spec_most _ _ _).mono ?_; rintro e w' ⟨rfl, rfl⟩))
    go_wp2
    all_goals
    exact bodyPost_ret (v := .agg #[.bool false, .int .i64 (mostI lo lo'), .int .i64 (leastI hi hi')]) (by simp only [results, Try.results40]; go_simp) rfl ⟨rfl, by repeat (first | exact Below.refl _ _ | refine Below.drew ?_ | refine Below.setCell ?_ (by simp; try omega) _ | refine Below.alloc ?_ (by simp; try omega) _)⟩

set_option maxRecDepth 100000 in
set_option maxHeartbeats 2000000 in
theorem impl_meet6 (f g : Rv) (W : World) : Calls Try.prog 42 #[.agg #[.bool f.e, .int .i64 f.lo, .int .i64 f.hi], .agg #[.bool g.e, .int .i64 g.lo, .int .i64 g.hi]] W fun e W' => e = .returned (meetR f g).val ∧ Below W.heap.size W W' := by
  obtain ⟨e, lo, hi⟩ := f
  obtain ⟨e', lo', hi'⟩ := g
  show Calls _ _ #[.agg #[.bool e, .int .i64 lo, .int .i64 hi], .agg #[.bool e', .int .i64 lo', .int .i64 hi']] W _
  cases e
  rotate_left
  · rw [show (meetR ⟨true, lo, hi⟩ ⟨e', lo', hi'⟩).val = .agg #[.bool true, .int .i64 0, .int .i64 0] by simp [meetR, Rv.val, noneR]]
    go_enter Try.func42, Try.ntmps42
    go_wp2_with (first | (go_at_call 70; refine (impl_inner _ _ _ _ _).mono ?_; rintro e w' ⟨rfl, rfl⟩) | (go_at_call 71; refine (impl_none _).mono ?_; rintro e w' ⟨rfl, B1⟩; obtain ⟨c1, y1⟩ := bcellR B1))
    exact bodyPost_ret (v := .agg #[.bool true, .int .i64 0, .int .i64 0]) (by simp only [results, Try.results42]; go_simp) rfl ⟨rfl, by refine Below.trans (belR (by repeat (first | exact Below.refl _ _ | refine Below.drew ?_ | refine Below.setCell ?_ (by simp; try omega) _ | refine Below.alloc ?_ (by simp; try omega) _)) B1) ?_; repeat (first | exact Below.refl _ _ | refine Below.drew ?_ | refine Below.setCell ?_ (by simp; try omega) _ | refine Below.alloc ?_ (by simp; try omega) _)⟩
  cases e'
  rotate_left
  · rw [show (meetR ⟨false, lo, hi⟩ ⟨true, lo', hi'⟩).val = .agg #[.bool true, .int .i64 0, .int .i64 0] by simp [meetR, Rv.val, noneR]]
    go_enter Try.func42, Try.ntmps42
    go_wp2_with (first | (go_at_call 70; refine (impl_inner _ _ _ _ _).mono ?_; rintro e w' ⟨rfl, rfl⟩) | (go_at_call 71; refine (impl_none _).mono ?_; rintro e w' ⟨rfl, B1⟩; obtain ⟨c1, y1⟩ := bcellR B1))
    exact bodyPost_ret (v := .agg #[.bool true, .int .i64 0, .int .i64 0]) (by simp only [results, Try.results42]; go_simp) rfl ⟨rfl, by refine Below.trans (belR (by repeat (first | exact Below.refl _ _ | refine Below.drew ?_ | refine Below.setCell ?_ (by simp; try omega) _ | refine Below.alloc ?_ (by simp; try omega) _)) B1) ?_; repeat (first | exact Below.refl _ _ | refine Below.drew ?_ | refine Below.setCell ?_ (by simp; try omega) _ | refine Below.alloc ?_ (by simp; try omega) _)⟩
  by_cases h : leastI hi hi' < mostI lo lo'
  · rw [show (meetR ⟨false, lo, hi⟩ ⟨false, lo', hi'⟩).val = .agg #[.bool true, .int .i64 0, .int .i64 0] by rw [meetR, if_pos (Or.inr (Or.inr h))]; rfl]
    go_enter Try.func42, Try.ntmps42
    go_wp2_with (first | (go_at_call 70; refine (impl_inner _ _ _ _ _).mono ?_; rintro e w' ⟨rfl, rfl⟩) | (go_at_call 71; refine (impl_none _).mono ?_; rintro e w' ⟨rfl, B1⟩; obtain ⟨c1, y1⟩ := bcellR B1))
    exact bodyPost_ret (v := .agg #[.bool true, .int .i64 0, .int .i64 0]) (by simp only [results, Try.results42]; go_simp) rfl ⟨rfl, by refine Below.trans (belR (by repeat (first | exact Below.refl _ _ | refine Below.drew ?_ | refine Below.setCell ?_ (by simp; try omega) _ | refine Below.alloc ?_ (by simp; try omega) _)) B1) ?_; repeat (first | exact Below.refl _ _ | refine Below.drew ?_ | refine Below.setCell ?_ (by simp; try omega) _ | refine Below.alloc ?_ (by simp; try omega) _)⟩
  · rw [show (meetR ⟨false, lo, hi⟩ ⟨false, lo', hi'⟩).val = .agg #[.bool false, .int .i64 (mostI lo lo'), .int .i64 (leastI hi hi')] by rw [meetR, if_neg (by simp; omega)]; rfl]
    have h' : decide (leastI hi hi' < mostI lo lo') = false := decide_eq_false h
    have h'' : mostI lo lo' ≤ leastI hi hi' := by omega
    clear h
    go_enter Try.func42, Try.ntmps42
    go_wp2_with (first | (go_at_call 70; refine (impl_inner _ _ _ _ _).mono ?_; rintro e w' ⟨rfl, rfl⟩) | (go_at_call 71; refine (impl_none _).mono ?_; rintro e w' ⟨rfl, B1⟩; obtain ⟨c1, y1⟩ := bcellR B1))
    exact bodyPost_ret (v := .agg #[.bool false, .int .i64 (mostI lo lo'), .int .i64 (leastI hi hi')]) (by simp only [results, Try.results42]; go_simp) rfl ⟨rfl, by repeat (first | exact Below.refl _ _ | refine Below.drew ?_ | refine Below.setCell ?_ (by simp; try omega) _ | refine Below.alloc ?_ (by simp; try omega) _)⟩

end Go.Proofs.Ytoeiijkomjlolab.walks

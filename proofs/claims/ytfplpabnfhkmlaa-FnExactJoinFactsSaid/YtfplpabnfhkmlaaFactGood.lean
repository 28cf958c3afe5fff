/-
  What the laws' helpers on a fact answer, and GoodFact and JoinFacts of the program and of the specification, at every fact; they make new memory alone.
-/
import Derived.Test.YtfplpabnfhkmlaaProg
import Derived.Test.YtfplpabnfhkmlaaFactMath
import Derived.Test.YtfplpabnfhkmlaaFactEq
import Derived.Test.YtfplpabnfhkmlaaCodeGood
import Derived.WalkKit
import Derived.WalkSpells
import Derived.Deep.RegionWith
import Derived.Below
namespace Go.Proofs.Ytfplpabnfhkmlaa.walks
open Go.RowKit Go.Proofs.Ytfplpabnfhkmlaa.math
set_option linter.unusedVariables false

theorem bcellF {W w1 : World} (hb : Below W.heap.size W w1) : (∀ b o, b < W.heap.size → w1.cell? ⟨b, o, none⟩ = W.cell? ⟨b, o, none⟩) ∧ (∀ b o, b < W.heap.size → w1.frozen? ⟨b, o, none⟩ = W.frozen? ⟨b, o, none⟩) :=
  ⟨fun b o h => hb.cell (p := ⟨b, o, none⟩) h, fun b o h => hb.frozen (p := ⟨b, o, none⟩) h⟩

theorem bel2 {W X w' : World} (h : Below W.heap.size W X) (B : Below X.heap.size X w') : Below W.heap.size W w' := h.trans (B.mono h.size)

theorem to_fact (t k : Bool) (n : Int) (W : World) :
    Calls Try.prog 35 #[.agg #[.bool t, .bool k, .int .i64 n]] W fun e W' => e = .returned (.agg #[.bool t, .bool k, .int .i64 n]) ∧ Below W.heap.size W W' := by
  go_enter Try.func35, Try.ntmps35
  go_wp2
  exact bodyPost_ret (v := .agg #[.bool t, .bool k, .int .i64 n]) (by simp [results, Try.results35, go_sem]) rfl ⟨rfl, by
    repeat (first | exact Below.refl _ _ | refine Below.drew ?_ | refine Below.setCell ?_ (by simp; try omega) _ | refine Below.alloc ?_ (by simp; try omega) _)⟩

theorem impl_word (n : Int) (W : World) : Calls Try.prog 73 #[.int .i64 n] W fun e W' => e = .returned (.bool (inR n 0 65535)) ∧ W' = W := by
  by_cases h0 : 0 ≤ n
  rotate_left
  · have k0 : n < 0 := by omega
    have d0 : decide (0 ≤ n) = false := decide_eq_false h0
    rw [inR_lt k0]
    clear h0
    go_enter Try.func73, Try.ntmps73
    go_wp2
    go_ret
    exact ⟨rfl, rfl⟩
  by_cases h1 : n ≤ 65535
  rotate_left
  · have k1 : 65535 < n := by omega
    have d1 : decide (n ≤ 65535) = false := decide_eq_false h1
    rw [inR_gt k1]
    clear h1
    go_enter Try.func73, Try.ntmps73
    go_wp2
    go_ret
    exact ⟨rfl, rfl⟩
  rw [inR_mk h0 h1]
  have d1 : decide (n ≤ 65535) = true := decide_eq_true h1
  have d0 : decide (0 ≤ n) = true := decide_eq_true h0
  go_enter Try.func73, Try.ntmps73
  go_wp2
  go_ret
  exact ⟨rfl, rfl⟩

set_option maxRecDepth 100000 in
theorem spec_goodF (t k : Bool) (n : Int) (W : World) :
    Calls Try.prog 54 #[.agg #[.bool t, .bool k, .int .i64 n]] W fun e W' => e = .returned (.bool (goodF t k n)) ∧ Below W.heap.size W W' := by
  cases t <;> cases k
  rotate_left
  · show Calls _ _ _ _ fun e W' => e = .returned (.bool (inR n 0 65535)) ∧ _
    go_enter Try.func54, Try.ntmps54
    go_wp2_with fail
    refine (spec_word _ _).mono ?_
    rintro e w1 ⟨rfl, rfl⟩
    go_wp2
    go_ret
    exact ⟨rfl, by repeat (first | exact Below.refl _ _ | refine Below.drew ?_ | refine Below.setCell ?_ (by simp; try omega) _ | refine Below.alloc ?_ (by simp; try omega) _)⟩
  all_goals
    by_cases h : n = 0
    · subst h
      go_enter Try.func54, Try.ntmps54
      go_wp2
      go_ret
      exact ⟨rfl, by repeat (first | exact Below.refl _ _ | refine Below.drew ?_ | refine Below.setCell ?_ (by simp; try omega) _ | refine Below.alloc ?_ (by simp; try omega) _)⟩
    · have d0 : decide (n = 0) = false := by simp [h]
      have d1 : (n == 0) = false := by simp [h]
      simp only [goodF, d1]
      go_enter Try.func54, Try.ntmps54
      go_wp2
      go_ret
      exact ⟨rfl, by repeat (first | exact Below.refl _ _ | refine Below.drew ?_ | refine Below.setCell ?_ (by simp; try omega) _ | refine Below.alloc ?_ (by simp; try omega) _)⟩

theorem impl_top (W : World) : Calls Try.prog 72 #[] W fun e W' => e = .returned (.agg #[.bool true, .bool false, .int .i64 0]) ∧ Below W.heap.size W W' := by
  go_enter Try.func72, Try.ntmps72
  go_wp2
  exact bodyPost_ret (v := .agg #[.bool true, .bool false, .int .i64 0]) (by simp [results, Try.results72, go_sem]) rfl ⟨rfl, by
    repeat (first | exact Below.refl _ _ | refine Below.drew ?_ | refine Below.setCell ?_ (by simp; try omega) _ | refine Below.alloc ?_ (by simp; try omega) _)⟩

set_option maxRecDepth 100000 in
set_option maxHeartbeats 2000000 in
theorem impl_goodF (t k : Bool) (n : Int) (W : World) :
    Calls Try.prog 56 #[.agg #[.bool t, .bool k, .int .i64 n]] W fun e W' => e = .returned (.bool (goodF t k n)) ∧ Below W.heap.size W W' := by
  have qg := eqGF
  cases t <;> cases k
  rotate_left
  · show Calls _ _ _ _ fun e W' => e = .returned (.bool (inR n 0 65535)) ∧ _
    go_enter Try.func56, Try.ntmps56
    go_wp2_with fail
    refine (impl_word _ _).mono ?_
    rintro e w1 ⟨rfl, rfl⟩
    go_wp2
    go_ret
    exact ⟨rfl, by repeat (first | exact Below.refl _ _ | refine Below.drew ?_ | refine Below.setCell ?_ (by simp; try omega) _ | refine Below.alloc ?_ (by simp; try omega) _)⟩
  rotate_left
  · have q : ∀ w : World, (binOp .eql 53 (.agg #[.bool true, .bool true, .int .i64 n]) (.agg #[.bool true, .bool false, .int .i64 0])).run Try.prog w = .ok (.bool false) w := fun w => by rw [eqF]; simp
    go_enter Try.func56, Try.ntmps56
    go_wp2_with fail
    go_region_with (go_at_call 72; refine (impl_top _).mono ?_; rintro e w' ⟨rfl, B⟩; obtain ⟨c1, f1⟩ := bcellF B)
    all_goals
      go_wp2
      go_ret
      exact ⟨rfl, bel2 (by repeat (first | exact Below.refl _ _ | refine Below.drew ?_ | refine Below.setCell ?_ (by simp; try omega) _ | refine Below.alloc ?_ (by simp; try omega) _)) B⟩

  · by_cases h : n = 0
    · subst h
      have q : ∀ w : World, (binOp .eql 53 (.agg #[.bool false, .bool false, .int .i64 0]) (.agg #[.bool false, .bool false, .int .i64 0])).run Try.prog w = .ok (.bool true) w := fun w => by rw [eqF]; simp
      go_enter Try.func56, Try.ntmps56
      go_wp2
      go_ret
      exact ⟨rfl, by repeat (first | exact Below.refl _ _ | refine Below.drew ?_ | refine Below.setCell ?_ (by simp; try omega) _ | refine Below.alloc ?_ (by simp; try omega) _)⟩
    · have d1 : (n == 0) = false := by simp [h]
      simp only [goodF, d1]
      have q : ∀ w : World, (binOp .eql 53 (.agg #[.bool false, .bool false, .int .i64 n]) (.agg #[.bool false, .bool false, .int .i64 0])).run Try.prog w = .ok (.bool false) w := fun w => by rw [eqF]; simp [h]
      go_enter Try.func56, Try.ntmps56
      go_wp2
      go_ret
      exact ⟨rfl, by repeat (first | exact Below.refl _ _ | refine Below.drew ?_ | refine Below.setCell ?_ (by simp; try omega) _ | refine Below.alloc ?_ (by simp; try omega) _)⟩
  · by_cases h : n = 0
    · subst h
      have q : ∀ w : World, (binOp .eql 53 (.agg #[.bool true, .bool false, .int .i64 0]) (.agg #[.bool true, .bool false, .int .i64 0])).run Try.prog w = .ok (.bool true) w := fun w => by rw [eqF]; simp
      go_enter Try.func56, Try.ntmps56
      go_wp2_with fail
      go_region_with (go_at_call 72; refine (impl_top _).mono ?_; rintro e w' ⟨rfl, B⟩; obtain ⟨c1, f1⟩ := bcellF B)
      all_goals
        go_wp2
        go_ret
        exact ⟨rfl, bel2 (by repeat (first | exact Below.refl _ _ | refine Below.drew ?_ | refine Below.setCell ?_ (by simp; try omega) _ | refine Below.alloc ?_ (by simp; try omega) _)) B⟩
    · have d1 : (n == 0) = false := by simp [h]
      simp only [goodF, d1]
      have q : ∀ w : World, (binOp .eql 53 (.agg #[.bool true, .bool false, .int .i64 n]) (.agg #[.bool true, .bool false, .int .i64 0])).run Try.prog w = .ok (.bool false) w := fun w => by rw [eqF]; simp [h]
      go_enter Try.func56, Try.ntmps56
      go_wp2_with fail
      go_region_with (go_at_call 72; refine (impl_top _).mono ?_; rintro e w' ⟨rfl, B⟩; obtain ⟨c1, f1⟩ := bcellF B)
      all_goals
        go_wp2
        go_ret
        exact ⟨rfl, bel2 (by repeat (first | exact Below.refl _ _ | refine Below.drew ?_ | refine Below.setCell ?_ (by simp; try omega) _ | refine Below.alloc ?_ (by simp; try omega) _)) B⟩

theorem eq_fact (t k : Bool) (n : Int) (W : World) : Calls Try.prog 37 #[.agg #[.bool t, .bool k, .int .i64 n], .agg #[.bool t, .bool k, .int .i64 n]] W fun e W' => e = .returned (.bool true) ∧ W' = (W.alloc (.cells #[.bool t, .bool k, .int .i64 n] 53)).alloc (.cells #[.bool t, .bool k, .int .i64 n] 53) := by
  cases t <;> cases k
  all_goals
    go_enter Try.func37, Try.ntmps37
    go_wp2
    go_ret
    exact ⟨rfl, rfl⟩

end Go.Proofs.Ytfplpabnfhkmlaa.walks

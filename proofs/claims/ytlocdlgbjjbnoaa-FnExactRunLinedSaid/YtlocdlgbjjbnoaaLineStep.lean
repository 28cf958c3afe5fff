/-
  What the specification's l16Step and the program's hasGoodStep, hasGoodGuard answer.
-/
import Derived.Test.YtlocdlgbjjbnoaaProg
import Derived.Test.YtlocdlgbjjbnoaaMagMath
import Derived.Test.YtlocdlgbjjbnoaaLineMath
import Derived.WalkKit
import Derived.WalkSpells
import Derived.Below
import Derived.Handy
namespace Go.Proofs.Ytlocdlgbjjbnoaa.walks
open Go.RowKit Go.Proofs.Ytlocdlgbjjbnoaa.math
set_option linter.unusedVariables false
set_option maxRecDepth 100000

theorem range16 {n lo hi : Int} {b : Bool} (h : inR n lo hi = b) (W : World) : Calls Try.prog 42 #[.int .i64 n, .int .i64 lo, .int .i64 hi] W fun e W' => e = .returned (.bool b) ∧ W' = W := by
  subst h
  by_cases h0 : lo ≤ n
  rotate_left
  · have k0 : n < lo := by omega
    have d0 : decide (lo ≤ n) = false := decide_eq_false h0
    rw [inR_lt k0]
    clear h0
    go_enter Try.func42, Try.ntmps42
    go_wp2
    go_ret
    exact ⟨rfl, rfl⟩
  by_cases h1 : n ≤ hi
  rotate_left
  · have k1 : hi < n := by omega
    have d1 : decide (n ≤ hi) = false := decide_eq_false (by omega)
    rw [inR_gt k1]
    clear h1
    go_enter Try.func42, Try.ntmps42
    go_wp2
    go_ret
    exact ⟨rfl, rfl⟩
  rw [inR_mk h0 h1]
  have d1 : decide (n ≤ hi) = true := decide_eq_true (by omega)
  have d0 : decide (lo ≤ n) = true := decide_eq_true h0
  go_enter Try.func42, Try.ntmps42
  go_wp2
  go_ret
  exact ⟨rfl, rfl⟩
theorem btw16 {n lo hi : Int} {b : Bool} (h : inR n lo hi = b) (W : World) : Calls Try.prog 46 #[.int .i64 lo, .int .i64 n, .int .i64 hi] W fun e W' => e = .returned (.bool b) ∧ W' = W := by
  subst h
  by_cases h0 : lo ≤ n
  rotate_left
  · have k0 : n < lo := by omega
    have d0 : decide (lo ≤ n) = false := decide_eq_false h0
    rw [inR_lt k0]
    clear h0
    go_enter Try.func46, Try.ntmps46
    go_wp2
    go_ret
    exact ⟨rfl, rfl⟩
  by_cases h1 : n ≤ hi
  rotate_left
  · have k1 : hi < n := by omega
    have d1 : decide (n ≤ hi) = false := decide_eq_false (by omega)
    rw [inR_gt k1]
    clear h1
    go_enter Try.func46, Try.ntmps46
    go_wp2
    go_ret
    exact ⟨rfl, rfl⟩
  rw [inR_mk h0 h1]
  have d1 : decide (n ≤ hi) = true := decide_eq_true (by omega)
  have d0 : decide (lo ≤ n) = true := decide_eq_true h0
  go_enter Try.func46, Try.ntmps46
  go_wp2
  go_ret
  exact ⟨rfl, rfl⟩
/-- What a call of no effect does to the walk. -/
theorem spec_lstep (n : Nat) (o x t : Int) (W : World) : Calls Try.prog 53 #[.agg #[.int .i64 o, .int .i64 x, .int .i64 t], .int .i64 n] W fun e W' => e = .returned (.bool (lstepB n o x t)) ∧ Below W.heap.size W W' := by
  by_cases ho1 : o = 1
  · subst ho1
    have h2 : True := trivial
    cases h1 : inR x 0 99
    · rw [show lstepB n 1 x t = false by unfold lstepB; simp [h1]]
      go_enter Try.func53, Try.ntmps53
      go_wp2_with (go_at_call 42; (first | go_fit (range16 h1 _) | go_fit (range16 h2 _)); rintro e w' ⟨rfl, hw⟩; rw [hw]; clear hw w')
      go_ret
      exact ⟨rfl, by go_grown⟩
    · by_cases ht : t = 0
      · rw [show lstepB n 1 x t = true by unfold lstepB; simp [h1, ht]]
        subst ht
        go_enter Try.func53, Try.ntmps53
        go_wp2_with (go_at_call 42; (first | go_fit (range16 h1 _) | go_fit (range16 h2 _)); rintro e w' ⟨rfl, hw⟩; rw [hw]; clear hw w')
        go_ret
        exact ⟨rfl, by go_grown⟩
      · rw [show lstepB n 1 x t = false by unfold lstepB; simp [h1, ht]]
        have d1 : (t == 0) = false := by simpa using ht
        have d2 : decide (t = 0) = false := decide_eq_false ht
        go_enter Try.func53, Try.ntmps53
        go_wp2_with (go_at_call 42; (first | go_fit (range16 h1 _) | go_fit (range16 h2 _)); rintro e w' ⟨rfl, hw⟩; rw [hw]; clear hw w')
        go_ret
        exact ⟨rfl, by go_grown⟩
  by_cases ho2 : o = 2
  · subst ho2
    have h2 : True := trivial
    cases h1 : inR x 1 9
    · rw [show lstepB n 2 x t = false by unfold lstepB; simp [h1]]
      go_enter Try.func53, Try.ntmps53
      go_wp2_with (go_at_call 42; (first | go_fit (range16 h1 _) | go_fit (range16 h2 _)); rintro e w' ⟨rfl, hw⟩; rw [hw]; clear hw w')
      go_ret
      exact ⟨rfl, by go_grown⟩
    · by_cases ht : t = 0
      · rw [show lstepB n 2 x t = true by unfold lstepB; simp [h1, ht]]
        subst ht
        go_enter Try.func53, Try.ntmps53
        go_wp2_with (go_at_call 42; (first | go_fit (range16 h1 _) | go_fit (range16 h2 _)); rintro e w' ⟨rfl, hw⟩; rw [hw]; clear hw w')
        go_ret
        exact ⟨rfl, by go_grown⟩
      · rw [show lstepB n 2 x t = false by unfold lstepB; simp [h1, ht]]
        have d1 : (t == 0) = false := by simpa using ht
        have d2 : decide (t = 0) = false := decide_eq_false ht
        go_enter Try.func53, Try.ntmps53
        go_wp2_with (go_at_call 42; (first | go_fit (range16 h1 _) | go_fit (range16 h2 _)); rintro e w' ⟨rfl, hw⟩; rw [hw]; clear hw w')
        go_ret
        exact ⟨rfl, by go_grown⟩
  by_cases ho3 : o = 3
  · subst ho3
    have h2 : True := trivial
    cases h1 : inR x 0 39
    · rw [show lstepB n 3 x t = false by unfold lstepB; simp [h1]]
      go_enter Try.func53, Try.ntmps53
      go_wp2_with (go_at_call 42; (first | go_fit (range16 h1 _) | go_fit (range16 h2 _)); rintro e w' ⟨rfl, hw⟩; rw [hw]; clear hw w')
      go_ret
      exact ⟨rfl, by go_grown⟩
    · by_cases ht : t = 0
      · rw [show lstepB n 3 x t = true by unfold lstepB; simp [h1, ht]]
        subst ht
        go_enter Try.func53, Try.ntmps53
        go_wp2_with (go_at_call 42; (first | go_fit (range16 h1 _) | go_fit (range16 h2 _)); rintro e w' ⟨rfl, hw⟩; rw [hw]; clear hw w')
        go_ret
        exact ⟨rfl, by go_grown⟩
      · rw [show lstepB n 3 x t = false by unfold lstepB; simp [h1, ht]]
        have d1 : (t == 0) = false := by simpa using ht
        have d2 : decide (t = 0) = false := decide_eq_false ht
        go_enter Try.func53, Try.ntmps53
        go_wp2_with (go_at_call 42; (first | go_fit (range16 h1 _) | go_fit (range16 h2 _)); rintro e w' ⟨rfl, hw⟩; rw [hw]; clear hw w')
        go_ret
        exact ⟨rfl, by go_grown⟩
  by_cases ho5 : o = 5
  · subst ho5
    have h2 : True := trivial
    cases h1 : inR x 0 39
    · rw [show lstepB n 5 x t = false by unfold lstepB; simp [h1]]
      go_enter Try.func53, Try.ntmps53
      go_wp2_with (go_at_call 42; (first | go_fit (range16 h1 _) | go_fit (range16 h2 _)); rintro e w' ⟨rfl, hw⟩; rw [hw]; clear hw w')
      go_ret
      exact ⟨rfl, by go_grown⟩
    · by_cases ht : t = 0
      · rw [show lstepB n 5 x t = true by unfold lstepB; simp [h1, ht]]
        subst ht
        go_enter Try.func53, Try.ntmps53
        go_wp2_with (go_at_call 42; (first | go_fit (range16 h1 _) | go_fit (range16 h2 _)); rintro e w' ⟨rfl, hw⟩; rw [hw]; clear hw w')
        go_ret
        exact ⟨rfl, by go_grown⟩
      · rw [show lstepB n 5 x t = false by unfold lstepB; simp [h1, ht]]
        have d1 : (t == 0) = false := by simpa using ht
        have d2 : decide (t = 0) = false := decide_eq_false ht
        go_enter Try.func53, Try.ntmps53
        go_wp2_with (go_at_call 42; (first | go_fit (range16 h1 _) | go_fit (range16 h2 _)); rintro e w' ⟨rfl, hw⟩; rw [hw]; clear hw w')
        go_ret
        exact ⟨rfl, by go_grown⟩
  by_cases ho4 : o = 4
  · subst ho4
    have h2 : True := trivial
    by_cases hx : x = 0
    rotate_left
    · rw [show lstepB n 4 x t = false by unfold lstepB; simp [hx]]
      have d1 : (x == 0) = false := by simpa using hx
      have d2 : decide (x = 0) = false := decide_eq_false hx
      have h1 : True := trivial
      go_enter Try.func53, Try.ntmps53
      go_wp2_with (go_at_call 42; (first | go_fit (range16 h1 _) | go_fit (range16 h2 _)); rintro e w' ⟨rfl, hw⟩; rw [hw]; clear hw w')
      go_ret
      exact ⟨rfl, by go_grown⟩
    · subst hx
      cases h1 : inR t 0 (n : Int)
      · rw [show lstepB n 4 0 t = false by unfold lstepB; simp [h1]]
        go_enter Try.func53, Try.ntmps53
        go_wp2_with (go_at_call 42; (first | go_fit (range16 h1 _) | go_fit (range16 h2 _)); rintro e w' ⟨rfl, hw⟩; rw [hw]; clear hw w')
        go_ret
        exact ⟨rfl, by go_grown⟩
      · rw [show lstepB n 4 0 t = true by unfold lstepB; simp [h1]]
        go_enter Try.func53, Try.ntmps53
        go_wp2_with (go_at_call 42; (first | go_fit (range16 h1 _) | go_fit (range16 h2 _)); rintro e w' ⟨rfl, hw⟩; rw [hw]; clear hw w')
        go_ret
        exact ⟨rfl, by go_grown⟩
  by_cases ho6 : o = 6
  · subst ho6
    cases h1 : inR x 0 39
    · rw [show lstepB n 6 x t = false by unfold lstepB; simp [h1]]
      have h2 : True := trivial
      go_enter Try.func53, Try.ntmps53
      go_wp2_with (go_at_call 42; (first | go_fit (range16 h1 _) | go_fit (range16 h2 _)); rintro e w' ⟨rfl, hw⟩; rw [hw]; clear hw w')
      go_ret
      exact ⟨rfl, by go_grown⟩
    · cases h2 : inR t 0 9
      · rw [show lstepB n 6 x t = false by unfold lstepB; simp [h1, h2]]
        go_enter Try.func53, Try.ntmps53
        go_wp2_with (go_at_call 42; (first | go_fit (range16 h1 _) | go_fit (range16 h2 _)); rintro e w' ⟨rfl, hw⟩; rw [hw]; clear hw w')
        go_ret
        exact ⟨rfl, by go_grown⟩
      · rw [show lstepB n 6 x t = true by unfold lstepB; simp [h1, h2]]
        go_enter Try.func53, Try.ntmps53
        go_wp2_with (go_at_call 42; (first | go_fit (range16 h1 _) | go_fit (range16 h2 _)); rintro e w' ⟨rfl, hw⟩; rw [hw]; clear hw w')
        go_ret
        exact ⟨rfl, by go_grown⟩
  rw [lstepB_else ho1 ho2 ho3 ho4 ho5 ho6]
  have h1 : True := trivial
  have h2 : True := trivial
  have e1 : (o == 1) = false := by simpa using ho1
  have f1 : decide (o = 1) = false := decide_eq_false ho1
  have e2 : (o == 2) = false := by simpa using ho2
  have f2 : decide (o = 2) = false := decide_eq_false ho2
  have e3 : (o == 3) = false := by simpa using ho3
  have f3 : decide (o = 3) = false := decide_eq_false ho3
  have e4 : (o == 4) = false := by simpa using ho4
  have f4 : decide (o = 4) = false := decide_eq_false ho4
  have e5 : (o == 5) = false := by simpa using ho5
  have f5 : decide (o = 5) = false := decide_eq_false ho5
  have e6 : (o == 6) = false := by simpa using ho6
  have f6 : decide (o = 6) = false := decide_eq_false ho6
  go_enter Try.func53, Try.ntmps53
  go_wp2_with (go_at_call 42; (first | go_fit (range16 h1 _) | go_fit (range16 h2 _)); rintro e w' ⟨rfl, hw⟩; rw [hw]; clear hw w')
  go_ret
  exact ⟨rfl, by go_grown⟩
theorem impl_code16 {c : Int} {b : Bool} (h : inR c 1 9 = b) (W : World) : Calls Try.prog 78 #[.int .i64 c] W fun e W' => e = .returned (.bool b) ∧ W' = W := by
  go_enter Try.func78, Try.ntmps78
  go_wp2_with (go_at_call 46; refine (btw16 h _).mono ?_; rintro e w' ⟨rfl, hw⟩; rw [hw]; clear hw w')
  go_ret
  exact ⟨rfl, rfl⟩
theorem impl_reg16 {c : Int} {b : Bool} (h : inR c 0 39 = b) (W : World) : Calls Try.prog 79 #[.int .i64 c] W fun e W' => e = .returned (.bool b) ∧ W' = W := by
  go_enter Try.func79, Try.ntmps79
  go_wp2_with (go_at_call 46; refine (btw16 h _).mono ?_; rintro e w' ⟨rfl, hw⟩; rw [hw]; clear hw w')
  go_ret
  exact ⟨rfl, rfl⟩
theorem impl_any16 {c : Int} {b : Bool} (h : inR c 0 9 = b) (W : World) : Calls Try.prog 81 #[.int .i64 c] W fun e W' => e = .returned (.bool b) ∧ W' = W := by
  by_cases hc : c = 0
  · subst hc
    rw [show b = true from h.symm.trans (by decide)]
    go_enter Try.func81, Try.ntmps81
    go_wp2
    go_ret
    exact ⟨rfl, rfl⟩
  · have d1 : (c == 0) = false := by simpa using hc
    have d2 : decide (c = 0) = false := decide_eq_false hc
    have h1 : inR c 1 9 = b := by rw [← h]; unfold inR; congr 1; apply propext; omega
    go_enter Try.func81, Try.ntmps81
    go_wp2_with (go_at_call 78; refine (impl_code16 h1 _).mono ?_; rintro e w' ⟨rfl, hw⟩; rw [hw]; clear hw w')
    go_ret
    exact ⟨rfl, rfl⟩
theorem impl_place16 (a : Option Addr) (n cap : Nat) (ga : Option Addr) (g gc : Nat) {x : Int} {b : Bool} (h : inR x 0 n = b) (hn : n ≤ 1048576) (W : World) : Calls Try.prog 80 #[.agg #[.slice a n cap, .slice ga g gc], .int .i64 x] W fun e W' => e = .returned (.bool b) ∧ Below W.heap.size W W' := by
  go_enter Try.func80, Try.ntmps80
  go_wp2_with (go_at_call 46; refine (btw16 h _).mono ?_; rintro e w' ⟨rfl, hw⟩; rw [hw]; clear hw w')
  go_ret
  exact ⟨rfl, by go_grown⟩
theorem impl_catch16 {k code : Int} {b : Bool} (h : (decide (k = 0) || decide (k = code)) = b) (W : World) : Calls Try.prog 83 #[.int .i64 k, .int .i64 code] W fun e W' => e = .returned (.bool b) ∧ W' = W := by
  by_cases hk : k = 0
  · subst hk
    rw [show b = true from h.symm.trans (by simp)]
    go_enter Try.func83, Try.ntmps83
    go_wp2
    go_ret
    exact ⟨rfl, rfl⟩
  · have d1 : (k == 0) = false := by simpa using hk
    have d2 : decide (k = 0) = false := decide_eq_false hk
    by_cases hc : k = code
    · subst hc
      rw [show b = true from h.symm.trans (by simp)]
      go_enter Try.func83, Try.ntmps83
      go_wp2
      go_ret
      exact ⟨rfl, rfl⟩
    · have d3 : (k == code) = false := by simpa using hc
      have d4 : decide (k = code) = false := decide_eq_false hc
      rw [show b = false from h.symm.trans (by rw [d2, d4]; rfl)]
      go_enter Try.func83, Try.ntmps83
      go_wp2
      go_ret
      exact ⟨rfl, rfl⟩
theorem impl_lstep (a : Option Addr) (n cap : Nat) (ga : Option Addr) (g gc : Nat) (o x t : Int) (hn : n ≤ 1048576) (W : World) : Calls Try.prog 59 #[.agg #[.slice a n cap, .slice ga g gc], .agg #[.int .i64 o, .int .i64 x, .int .i64 t]] W fun e W' => e = .returned (.bool (lstepB n o x t)) ∧ Below W.heap.size W W' := by
  by_cases ho1 : o = 1
  · subst ho1
    have h2 : True := trivial
    cases h1 : inR x 0 99
    · rw [show lstepB n 1 x t = false by unfold lstepB; simp [h1]]
      go_enter Try.func59, Try.ntmps59
      go_wp2_with (first | (go_at_call 46; (first | go_fit (btw16 h1 _) | go_fit (btw16 h2 _)); rintro e w' ⟨rfl, hw⟩; rw [hw]; clear hw w') | (go_at_call 78; go_fit (impl_code16 h1 _); rintro e w' ⟨rfl, hw⟩; rw [hw]; clear hw w') | (go_at_call 79; go_fit (impl_reg16 h1 _); rintro e w' ⟨rfl, hw⟩; rw [hw]; clear hw w') | (go_at_call 80; refine (impl_place16 _ _ _ _ _ _ h1 hn _).mono ?_; rintro e w1 ⟨rfl, hB⟩; have HB : Hid (Below W.heap.size W w1) := (show Below _ _ _ from (((Below.refl _ _).alloc (Nat.le_refl _) _).alloc (by simp) _).trans (hB.mono (by simp; try omega))); clear hB))
      go_ret
      exact ⟨rfl, by first | exact HB.out | go_grown⟩
    · by_cases ht : t = 0
      · rw [show lstepB n 1 x t = true by unfold lstepB; simp [h1, ht]]
        subst ht
        go_enter Try.func59, Try.ntmps59
        go_wp2_with (first | (go_at_call 46; (first | go_fit (btw16 h1 _) | go_fit (btw16 h2 _)); rintro e w' ⟨rfl, hw⟩; rw [hw]; clear hw w') | (go_at_call 78; go_fit (impl_code16 h1 _); rintro e w' ⟨rfl, hw⟩; rw [hw]; clear hw w') | (go_at_call 79; go_fit (impl_reg16 h1 _); rintro e w' ⟨rfl, hw⟩; rw [hw]; clear hw w') | (go_at_call 80; refine (impl_place16 _ _ _ _ _ _ h1 hn _).mono ?_; rintro e w1 ⟨rfl, hB⟩; have HB : Hid (Below W.heap.size W w1) := (show Below _ _ _ from (((Below.refl _ _).alloc (Nat.le_refl _) _).alloc (by simp) _).trans (hB.mono (by simp; try omega))); clear hB))
        go_ret
        exact ⟨rfl, by first | exact HB.out | go_grown⟩
      · rw [show lstepB n 1 x t = false by unfold lstepB; simp [h1, ht]]
        have d1 : (t == 0) = false := by simpa using ht
        have d2 : decide (t = 0) = false := decide_eq_false ht
        go_enter Try.func59, Try.ntmps59
        go_wp2_with (first | (go_at_call 46; (first | go_fit (btw16 h1 _) | go_fit (btw16 h2 _)); rintro e w' ⟨rfl, hw⟩; rw [hw]; clear hw w') | (go_at_call 78; go_fit (impl_code16 h1 _); rintro e w' ⟨rfl, hw⟩; rw [hw]; clear hw w') | (go_at_call 79; go_fit (impl_reg16 h1 _); rintro e w' ⟨rfl, hw⟩; rw [hw]; clear hw w') | (go_at_call 80; refine (impl_place16 _ _ _ _ _ _ h1 hn _).mono ?_; rintro e w1 ⟨rfl, hB⟩; have HB : Hid (Below W.heap.size W w1) := (show Below _ _ _ from (((Below.refl _ _).alloc (Nat.le_refl _) _).alloc (by simp) _).trans (hB.mono (by simp; try omega))); clear hB))
        go_ret
        exact ⟨rfl, by first | exact HB.out | go_grown⟩
  by_cases ho2 : o = 2
  · subst ho2
    have h2 : True := trivial
    cases h1 : inR x 1 9
    · rw [show lstepB n 2 x t = false by unfold lstepB; simp [h1]]
      go_enter Try.func59, Try.ntmps59
      go_wp2_with (first | (go_at_call 46; (first | go_fit (btw16 h1 _) | go_fit (btw16 h2 _)); rintro e w' ⟨rfl, hw⟩; rw [hw]; clear hw w') | (go_at_call 78; go_fit (impl_code16 h1 _); rintro e w' ⟨rfl, hw⟩; rw [hw]; clear hw w') | (go_at_call 79; go_fit (impl_reg16 h1 _); rintro e w' ⟨rfl, hw⟩; rw [hw]; clear hw w') | (go_at_call 80; refine (impl_place16 _ _ _ _ _ _ h1 hn _).mono ?_; rintro e w1 ⟨rfl, hB⟩; have HB : Hid (Below W.heap.size W w1) := (show Below _ _ _ from (((Below.refl _ _).alloc (Nat.le_refl _) _).alloc (by simp) _).trans (hB.mono (by simp; try omega))); clear hB))
      go_ret
      exact ⟨rfl, by first | exact HB.out | go_grown⟩
    · by_cases ht : t = 0
      · rw [show lstepB n 2 x t = true by unfold lstepB; simp [h1, ht]]
        subst ht
        go_enter Try.func59, Try.ntmps59
        go_wp2_with (first | (go_at_call 46; (first | go_fit (btw16 h1 _) | go_fit (btw16 h2 _)); rintro e w' ⟨rfl, hw⟩; rw [hw]; clear hw w') | (go_at_call 78; go_fit (impl_code16 h1 _); rintro e w' ⟨rfl, hw⟩; rw [hw]; clear hw w') | (go_at_call 79; go_fit (impl_reg16 h1 _); rintro e w' ⟨rfl, hw⟩; rw [hw]; clear hw w') | (go_at_call 80; refine (impl_place16 _ _ _ _ _ _ h1 hn _).mono ?_; rintro e w1 ⟨rfl, hB⟩; have HB : Hid (Below W.heap.size W w1) := (show Below _ _ _ from (((Below.refl _ _).alloc (Nat.le_refl _) _).alloc (by simp) _).trans (hB.mono (by simp; try omega))); clear hB))
        go_ret
        exact ⟨rfl, by first | exact HB.out | go_grown⟩
      · rw [show lstepB n 2 x t = false by unfold lstepB; simp [h1, ht]]
        have d1 : (t == 0) = false := by simpa using ht
        have d2 : decide (t = 0) = false := decide_eq_false ht
        go_enter Try.func59, Try.ntmps59
        go_wp2_with (first | (go_at_call 46; (first | go_fit (btw16 h1 _) | go_fit (btw16 h2 _)); rintro e w' ⟨rfl, hw⟩; rw [hw]; clear hw w') | (go_at_call 78; go_fit (impl_code16 h1 _); rintro e w' ⟨rfl, hw⟩; rw [hw]; clear hw w') | (go_at_call 79; go_fit (impl_reg16 h1 _); rintro e w' ⟨rfl, hw⟩; rw [hw]; clear hw w') | (go_at_call 80; refine (impl_place16 _ _ _ _ _ _ h1 hn _).mono ?_; rintro e w1 ⟨rfl, hB⟩; have HB : Hid (Below W.heap.size W w1) := (show Below _ _ _ from (((Below.refl _ _).alloc (Nat.le_refl _) _).alloc (by simp) _).trans (hB.mono (by simp; try omega))); clear hB))
        go_ret
        exact ⟨rfl, by first | exact HB.out | go_grown⟩
  by_cases ho3 : o = 3
  · subst ho3
    have h2 : True := trivial
    cases h1 : inR x 0 39
    · rw [show lstepB n 3 x t = false by unfold lstepB; simp [h1]]
      go_enter Try.func59, Try.ntmps59
      go_wp2_with (first | (go_at_call 46; (first | go_fit (btw16 h1 _) | go_fit (btw16 h2 _)); rintro e w' ⟨rfl, hw⟩; rw [hw]; clear hw w') | (go_at_call 78; go_fit (impl_code16 h1 _); rintro e w' ⟨rfl, hw⟩; rw [hw]; clear hw w') | (go_at_call 79; go_fit (impl_reg16 h1 _); rintro e w' ⟨rfl, hw⟩; rw [hw]; clear hw w') | (go_at_call 80; refine (impl_place16 _ _ _ _ _ _ h1 hn _).mono ?_; rintro e w1 ⟨rfl, hB⟩; have HB : Hid (Below W.heap.size W w1) := (show Below _ _ _ from (((Below.refl _ _).alloc (Nat.le_refl _) _).alloc (by simp) _).trans (hB.mono (by simp; try omega))); clear hB))
      go_ret
      exact ⟨rfl, by first | exact HB.out | go_grown⟩
    · by_cases ht : t = 0
      · rw [show lstepB n 3 x t = true by unfold lstepB; simp [h1, ht]]
        subst ht
        go_enter Try.func59, Try.ntmps59
        go_wp2_with (first | (go_at_call 46; (first | go_fit (btw16 h1 _) | go_fit (btw16 h2 _)); rintro e w' ⟨rfl, hw⟩; rw [hw]; clear hw w') | (go_at_call 78; go_fit (impl_code16 h1 _); rintro e w' ⟨rfl, hw⟩; rw [hw]; clear hw w') | (go_at_call 79; go_fit (impl_reg16 h1 _); rintro e w' ⟨rfl, hw⟩; rw [hw]; clear hw w') | (go_at_call 80; refine (impl_place16 _ _ _ _ _ _ h1 hn _).mono ?_; rintro e w1 ⟨rfl, hB⟩; have HB : Hid (Below W.heap.size W w1) := (show Below _ _ _ from (((Below.refl _ _).alloc (Nat.le_refl _) _).alloc (by simp) _).trans (hB.mono (by simp; try omega))); clear hB))
        go_ret
        exact ⟨rfl, by first | exact HB.out | go_grown⟩
      · rw [show lstepB n 3 x t = false by unfold lstepB; simp [h1, ht]]
        have d1 : (t == 0) = false := by simpa using ht
        have d2 : decide (t = 0) = false := decide_eq_false ht
        go_enter Try.func59, Try.ntmps59
        go_wp2_with (first | (go_at_call 46; (first | go_fit (btw16 h1 _) | go_fit (btw16 h2 _)); rintro e w' ⟨rfl, hw⟩; rw [hw]; clear hw w') | (go_at_call 78; go_fit (impl_code16 h1 _); rintro e w' ⟨rfl, hw⟩; rw [hw]; clear hw w') | (go_at_call 79; go_fit (impl_reg16 h1 _); rintro e w' ⟨rfl, hw⟩; rw [hw]; clear hw w') | (go_at_call 80; refine (impl_place16 _ _ _ _ _ _ h1 hn _).mono ?_; rintro e w1 ⟨rfl, hB⟩; have HB : Hid (Below W.heap.size W w1) := (show Below _ _ _ from (((Below.refl _ _).alloc (Nat.le_refl _) _).alloc (by simp) _).trans (hB.mono (by simp; try omega))); clear hB))
        go_ret
        exact ⟨rfl, by first | exact HB.out | go_grown⟩
  by_cases ho5 : o = 5
  · subst ho5
    have h2 : True := trivial
    cases h1 : inR x 0 39
    · rw [show lstepB n 5 x t = false by unfold lstepB; simp [h1]]
      go_enter Try.func59, Try.ntmps59
      go_wp2_with (first | (go_at_call 46; (first | go_fit (btw16 h1 _) | go_fit (btw16 h2 _)); rintro e w' ⟨rfl, hw⟩; rw [hw]; clear hw w') | (go_at_call 78; go_fit (impl_code16 h1 _); rintro e w' ⟨rfl, hw⟩; rw [hw]; clear hw w') | (go_at_call 79; go_fit (impl_reg16 h1 _); rintro e w' ⟨rfl, hw⟩; rw [hw]; clear hw w') | (go_at_call 80; refine (impl_place16 _ _ _ _ _ _ h1 hn _).mono ?_; rintro e w1 ⟨rfl, hB⟩; have HB : Hid (Below W.heap.size W w1) := (show Below _ _ _ from (((Below.refl _ _).alloc (Nat.le_refl _) _).alloc (by simp) _).trans (hB.mono (by simp; try omega))); clear hB))
      go_ret
      exact ⟨rfl, by first | exact HB.out | go_grown⟩
    · by_cases ht : t = 0
      · rw [show lstepB n 5 x t = true by unfold lstepB; simp [h1, ht]]
        subst ht
        go_enter Try.func59, Try.ntmps59
        go_wp2_with (first | (go_at_call 46; (first | go_fit (btw16 h1 _) | go_fit (btw16 h2 _)); rintro e w' ⟨rfl, hw⟩; rw [hw]; clear hw w') | (go_at_call 78; go_fit (impl_code16 h1 _); rintro e w' ⟨rfl, hw⟩; rw [hw]; clear hw w') | (go_at_call 79; go_fit (impl_reg16 h1 _); rintro e w' ⟨rfl, hw⟩; rw [hw]; clear hw w') | (go_at_call 80; refine (impl_place16 _ _ _ _ _ _ h1 hn _).mono ?_; rintro e w1 ⟨rfl, hB⟩; have HB : Hid (Below W.heap.size W w1) := (show Below _ _ _ from (((Below.refl _ _).alloc (Nat.le_refl _) _).alloc (by simp) _).trans (hB.mono (by simp; try omega))); clear hB))
        go_ret
        exact ⟨rfl, by first | exact HB.out | go_grown⟩
      · rw [show lstepB n 5 x t = false by unfold lstepB; simp [h1, ht]]
        have d1 : (t == 0) = false := by simpa using ht
        have d2 : decide (t = 0) = false := decide_eq_false ht
        go_enter Try.func59, Try.ntmps59
        go_wp2_with (first | (go_at_call 46; (first | go_fit (btw16 h1 _) | go_fit (btw16 h2 _)); rintro e w' ⟨rfl, hw⟩; rw [hw]; clear hw w') | (go_at_call 78; go_fit (impl_code16 h1 _); rintro e w' ⟨rfl, hw⟩; rw [hw]; clear hw w') | (go_at_call 79; go_fit (impl_reg16 h1 _); rintro e w' ⟨rfl, hw⟩; rw [hw]; clear hw w') | (go_at_call 80; refine (impl_place16 _ _ _ _ _ _ h1 hn _).mono ?_; rintro e w1 ⟨rfl, hB⟩; have HB : Hid (Below W.heap.size W w1) := (show Below _ _ _ from (((Below.refl _ _).alloc (Nat.le_refl _) _).alloc (by simp) _).trans (hB.mono (by simp; try omega))); clear hB))
        go_ret
        exact ⟨rfl, by first | exact HB.out | go_grown⟩
  by_cases ho4 : o = 4
  · subst ho4
    have h2 : True := trivial
    by_cases hx : x = 0
    rotate_left
    · rw [show lstepB n 4 x t = false by unfold lstepB; simp [hx]]
      have d1 : (x == 0) = false := by simpa using hx
      have d2 : decide (x = 0) = false := decide_eq_false hx
      have h1 : True := trivial
      go_enter Try.func59, Try.ntmps59
      go_wp2_with (first | (go_at_call 46; (first | go_fit (btw16 h1 _) | go_fit (btw16 h2 _)); rintro e w' ⟨rfl, hw⟩; rw [hw]; clear hw w') | (go_at_call 78; go_fit (impl_code16 h1 _); rintro e w' ⟨rfl, hw⟩; rw [hw]; clear hw w') | (go_at_call 79; go_fit (impl_reg16 h1 _); rintro e w' ⟨rfl, hw⟩; rw [hw]; clear hw w') | (go_at_call 80; refine (impl_place16 _ _ _ _ _ _ h1 hn _).mono ?_; rintro e w1 ⟨rfl, hB⟩; have HB : Hid (Below W.heap.size W w1) := (show Below _ _ _ from (((Below.refl _ _).alloc (Nat.le_refl _) _).alloc (by simp) _).trans (hB.mono (by simp; try omega))); clear hB))
      go_ret
      exact ⟨rfl, by first | exact HB.out | go_grown⟩
    · subst hx
      cases h1 : inR t 0 (n : Int)
      · rw [show lstepB n 4 0 t = false by unfold lstepB; simp [h1]]
        go_enter Try.func59, Try.ntmps59
        go_wp2_with (first | (go_at_call 46; (first | go_fit (btw16 h1 _) | go_fit (btw16 h2 _)); rintro e w' ⟨rfl, hw⟩; rw [hw]; clear hw w') | (go_at_call 78; go_fit (impl_code16 h1 _); rintro e w' ⟨rfl, hw⟩; rw [hw]; clear hw w') | (go_at_call 79; go_fit (impl_reg16 h1 _); rintro e w' ⟨rfl, hw⟩; rw [hw]; clear hw w') | (go_at_call 80; refine (impl_place16 _ _ _ _ _ _ h1 hn _).mono ?_; rintro e w1 ⟨rfl, hB⟩; have HB : Hid (Below W.heap.size W w1) := (show Below _ _ _ from (((Below.refl _ _).alloc (Nat.le_refl _) _).alloc (by simp) _).trans (hB.mono (by simp; try omega))); clear hB))
        go_ret
        exact ⟨rfl, by first | exact HB.out | go_grown⟩
      · rw [show lstepB n 4 0 t = true by unfold lstepB; simp [h1]]
        go_enter Try.func59, Try.ntmps59
        go_wp2_with (first | (go_at_call 46; (first | go_fit (btw16 h1 _) | go_fit (btw16 h2 _)); rintro e w' ⟨rfl, hw⟩; rw [hw]; clear hw w') | (go_at_call 78; go_fit (impl_code16 h1 _); rintro e w' ⟨rfl, hw⟩; rw [hw]; clear hw w') | (go_at_call 79; go_fit (impl_reg16 h1 _); rintro e w' ⟨rfl, hw⟩; rw [hw]; clear hw w') | (go_at_call 80; refine (impl_place16 _ _ _ _ _ _ h1 hn _).mono ?_; rintro e w1 ⟨rfl, hB⟩; have HB : Hid (Below W.heap.size W w1) := (show Below _ _ _ from (((Below.refl _ _).alloc (Nat.le_refl _) _).alloc (by simp) _).trans (hB.mono (by simp; try omega))); clear hB))
        go_ret
        exact ⟨rfl, by first | exact HB.out | go_grown⟩
  by_cases ho6 : o = 6
  · subst ho6
    cases h1 : inR x 0 39
    · rw [show lstepB n 6 x t = false by unfold lstepB; simp [h1]]
      have h2 : True := trivial
      go_enter Try.func59, Try.ntmps59
      go_wp2_with (first | (go_at_call 46; (first | go_fit (btw16 h1 _) | go_fit (btw16 h2 _)); rintro e w' ⟨rfl, hw⟩; rw [hw]; clear hw w') | (go_at_call 78; go_fit (impl_code16 h1 _); rintro e w' ⟨rfl, hw⟩; rw [hw]; clear hw w') | (go_at_call 79; go_fit (impl_reg16 h1 _); rintro e w' ⟨rfl, hw⟩; rw [hw]; clear hw w') | (go_at_call 80; refine (impl_place16 _ _ _ _ _ _ h1 hn _).mono ?_; rintro e w1 ⟨rfl, hB⟩; have HB : Hid (Below W.heap.size W w1) := (show Below _ _ _ from (((Below.refl _ _).alloc (Nat.le_refl _) _).alloc (by simp) _).trans (hB.mono (by simp; try omega))); clear hB))
      go_ret
      exact ⟨rfl, by first | exact HB.out | go_grown⟩
    · cases h2 : inR t 0 9
      · rw [show lstepB n 6 x t = false by unfold lstepB; simp [h1, h2]]
        go_enter Try.func59, Try.ntmps59
        go_wp2_with (first | (go_at_call 46; (first | go_fit (btw16 h1 _) | go_fit (btw16 h2 _)); rintro e w' ⟨rfl, hw⟩; rw [hw]; clear hw w') | (go_at_call 78; go_fit (impl_code16 h1 _); rintro e w' ⟨rfl, hw⟩; rw [hw]; clear hw w') | (go_at_call 79; go_fit (impl_reg16 h1 _); rintro e w' ⟨rfl, hw⟩; rw [hw]; clear hw w') | (go_at_call 80; refine (impl_place16 _ _ _ _ _ _ h1 hn _).mono ?_; rintro e w1 ⟨rfl, hB⟩; have HB : Hid (Below W.heap.size W w1) := (show Below _ _ _ from (((Below.refl _ _).alloc (Nat.le_refl _) _).alloc (by simp) _).trans (hB.mono (by simp; try omega))); clear hB))
        go_ret
        exact ⟨rfl, by first | exact HB.out | go_grown⟩
      · rw [show lstepB n 6 x t = true by unfold lstepB; simp [h1, h2]]
        go_enter Try.func59, Try.ntmps59
        go_wp2_with (first | (go_at_call 46; (first | go_fit (btw16 h1 _) | go_fit (btw16 h2 _)); rintro e w' ⟨rfl, hw⟩; rw [hw]; clear hw w') | (go_at_call 78; go_fit (impl_code16 h1 _); rintro e w' ⟨rfl, hw⟩; rw [hw]; clear hw w') | (go_at_call 79; go_fit (impl_reg16 h1 _); rintro e w' ⟨rfl, hw⟩; rw [hw]; clear hw w') | (go_at_call 80; refine (impl_place16 _ _ _ _ _ _ h1 hn _).mono ?_; rintro e w1 ⟨rfl, hB⟩; have HB : Hid (Below W.heap.size W w1) := (show Below _ _ _ from (((Below.refl _ _).alloc (Nat.le_refl _) _).alloc (by simp) _).trans (hB.mono (by simp; try omega))); clear hB))
        go_ret
        exact ⟨rfl, by first | exact HB.out | go_grown⟩
  rw [lstepB_else ho1 ho2 ho3 ho4 ho5 ho6]
  have h1 : True := trivial
  have h2 : True := trivial
  have e1 : (o == 1) = false := by simpa using ho1
  have f1 : decide (o = 1) = false := decide_eq_false ho1
  have e2 : (o == 2) = false := by simpa using ho2
  have f2 : decide (o = 2) = false := decide_eq_false ho2
  have e3 : (o == 3) = false := by simpa using ho3
  have f3 : decide (o = 3) = false := decide_eq_false ho3
  have e4 : (o == 4) = false := by simpa using ho4
  have f4 : decide (o = 4) = false := decide_eq_false ho4
  have e5 : (o == 5) = false := by simpa using ho5
  have f5 : decide (o = 5) = false := decide_eq_false ho5
  have e6 : (o == 6) = false := by simpa using ho6
  have f6 : decide (o = 6) = false := decide_eq_false ho6
  go_enter Try.func59, Try.ntmps59
  go_wp2_with (first | (go_at_call 46; (first | go_fit (btw16 h1 _) | go_fit (btw16 h2 _)); rintro e w' ⟨rfl, hw⟩; rw [hw]; clear hw w') | (go_at_call 78; go_fit (impl_code16 h1 _); rintro e w' ⟨rfl, hw⟩; rw [hw]; clear hw w') | (go_at_call 79; go_fit (impl_reg16 h1 _); rintro e w' ⟨rfl, hw⟩; rw [hw]; clear hw w') | (go_at_call 80; refine (impl_place16 _ _ _ _ _ _ h1 hn _).mono ?_; rintro e w1 ⟨rfl, hB⟩; have HB : Hid (Below W.heap.size W w1) := (show Below _ _ _ from (((Below.refl _ _).alloc (Nat.le_refl _) _).alloc (by simp) _).trans (hB.mono (by simp; try omega))); clear hB))
  go_ret
  exact ⟨rfl, by first | exact HB.out | go_grown⟩
end Go.Proofs.Ytlocdlgbjjbnoaa.walks

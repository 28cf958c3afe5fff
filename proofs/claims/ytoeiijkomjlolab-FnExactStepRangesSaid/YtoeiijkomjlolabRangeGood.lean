/-
  What the laws' helpers on a range answer, and GoodRange of the program and of the specification, at every range; they make new memory alone.
-/
import Derived.Test.YtoeiijkomjlolabProg
import Derived.Test.YtoeiijkomjlolabRangeMath
import Derived.Test.YtoeiijkomjlolabRangeEq
import Derived.Test.YtoeiijkomjlolabCodeGood
import Derived.WalkKit
import Derived.WalkSpells
import Derived.Deep.RegionWith
import Derived.Below
namespace Go.Proofs.Ytoeiijkomjlolab.walks
open Go.RowKit Go.Proofs.Ytoeiijkomjlolab.math
set_option linter.unusedVariables false

theorem bcellR {W w1 : World} (hb : Below W.heap.size W w1) : (∀ b o, b < W.heap.size → w1.cell? ⟨b, o, none⟩ = W.cell? ⟨b, o, none⟩) ∧ (∀ b o, b < W.heap.size → w1.frozen? ⟨b, o, none⟩ = W.frozen? ⟨b, o, none⟩) :=
  ⟨fun b o h => hb.cell (p := ⟨b, o, none⟩) h, fun b o h => hb.frozen (p := ⟨b, o, none⟩) h⟩
theorem belR {W X w' : World} (h : Below W.heap.size W X) (B : Below X.heap.size X w') : Below W.heap.size W w' := h.trans (B.mono h.size)

theorem to_range (e : Bool) (lo hi : Int) (W : World) :
    Calls Try.prog 10 #[.agg #[.bool e, .int .i64 lo, .int .i64 hi]] W fun x W' => x = .returned (.agg #[.bool e, .int .i64 lo, .int .i64 hi]) ∧ Below W.heap.size W W' := by
  go_enter Try.func10, Try.ntmps10
  go_wp2
  exact bodyPost_ret (v := .agg #[.bool e, .int .i64 lo, .int .i64 hi]) (by simp [results, Try.results10, go_sem]) rfl ⟨rfl, by
    repeat (first | exact Below.refl _ _ | refine Below.drew ?_ | refine Below.setCell ?_ (by simp; try omega) _ | refine Below.alloc ?_ (by simp; try omega) _)⟩
theorem eq_range (e : Bool) (lo hi : Int) (W : World) : Calls Try.prog 12 #[.agg #[.bool e, .int .i64 lo, .int .i64 hi], .agg #[.bool e, .int .i64 lo, .int .i64 hi]] W fun x W' => x = .returned (.bool true) ∧ W' = (W.alloc (.cells #[.bool e, .int .i64 lo, .int .i64 hi] 24)).alloc (.cells #[.bool e, .int .i64 lo, .int .i64 hi] 24) := by
  cases e
  all_goals
    go_enter Try.func12, Try.ntmps12
    go_wp2
    go_ret
    exact ⟨rfl, rfl⟩
theorem impl_between (lo n hi : Int) (W : World) : Calls Try.prog 87 #[.int .i64 lo, .int .i64 n, .int .i64 hi] W fun e W' => e = .returned (.bool (inR n lo hi)) ∧ W' = W := by
  by_cases h0 : lo ≤ n
  rotate_left
  · have k0 : n < lo := by omega
    have d0 : decide (lo ≤ n) = false := decide_eq_false h0
    rw [inR_lt k0]
    clear h0
    go_enter Try.func87, Try.ntmps87
    go_wp2
    go_ret
    exact ⟨rfl, rfl⟩
  by_cases h1 : n ≤ hi
  rotate_left
  · have k1 : hi < n := by omega
    have d1 : decide (n ≤ hi) = false := decide_eq_false h1
    rw [inR_gt k1]
    clear h1
    go_enter Try.func87, Try.ntmps87
    go_wp2
    go_ret
    exact ⟨rfl, rfl⟩
  rw [inR_mk h0 h1]
  have d1 : decide (n ≤ hi) = true := decide_eq_true h1
  have d0 : decide (lo ≤ n) = true := decide_eq_true h0
  go_enter Try.func87, Try.ntmps87
  go_wp2
  go_ret
  exact ⟨rfl, rfl⟩

theorem impl_wordR (n : Int) (W : World) : Calls Try.prog 86 #[.int .i64 n] W fun e W' => e = .returned (.bool (inR n 0 65535)) ∧ W' = W := by
  by_cases h0 : 0 ≤ n
  rotate_left
  · have k0 : n < 0 := by omega
    have d0 : decide (0 ≤ n) = false := decide_eq_false h0
    rw [inR_lt k0]
    clear h0
    go_enter Try.func86, Try.ntmps86
    go_wp2
    go_ret
    exact ⟨rfl, rfl⟩
  by_cases h1 : n ≤ 65535
  rotate_left
  · have k1 : 65535 < n := by omega
    have d1 : decide (n ≤ 65535) = false := decide_eq_false h1
    rw [inR_gt k1]
    clear h1
    go_enter Try.func86, Try.ntmps86
    go_wp2
    go_ret
    exact ⟨rfl, rfl⟩
  rw [inR_mk h0 h1]
  have d1 : decide (n ≤ 65535) = true := decide_eq_true h1
  have d0 : decide (0 ≤ n) = true := decide_eq_true h0
  go_enter Try.func86, Try.ntmps86
  go_wp2
  go_ret
  exact ⟨rfl, rfl⟩
theorem impl_none (W : World) : Calls Try.prog 71 #[] W fun e W' => e = .returned (.agg #[.bool true, .int .i64 0, .int .i64 0]) ∧ Below W.heap.size W W' := by
  go_enter Try.func71, Try.ntmps71
  go_wp2
  exact bodyPost_ret (v := .agg #[.bool true, .int .i64 0, .int .i64 0]) (by simp [results, Try.results71, go_sem]) rfl ⟨rfl, by
    repeat (first | exact Below.refl _ _ | refine Below.drew ?_ | refine Below.setCell ?_ (by simp; try omega) _ | refine Below.alloc ?_ (by simp; try omega) _)⟩

set_option maxRecDepth 100000 in
theorem spec_goodR (e : Bool) (lo hi : Int) (W : World) :
    Calls Try.prog 39 #[.agg #[.bool e, .int .i64 lo, .int .i64 hi]] W fun x W' => x = .returned (.bool (goodR e lo hi)) ∧ Below W.heap.size W W' := by
  cases e
  · show Calls _ _ _ _ fun x W' => x = .returned (.bool (inR lo 0 65535 && inR hi lo 65535)) ∧ _
    cases h : inR lo 0 65535
    · go_enter Try.func39, Try.ntmps39
      go_wp2_with fail
      refine (spec_word _ _).mono ?_
      rw [h]
      rintro x w1 ⟨rfl, rfl⟩
      go_wp2
      go_ret
      exact ⟨rfl, by repeat (first | exact Below.refl _ _ | refine Below.drew ?_ | refine Below.setCell ?_ (by simp; try omega) _ | refine Below.alloc ?_ (by simp; try omega) _)⟩
    · go_enter Try.func39, Try.ntmps39
      go_wp2_with fail
      refine (spec_word _ _).mono ?_
      rw [h]
      rintro x w1 ⟨rfl, rfl⟩
      go_wp2_with fail
      refine (spec_in _ _ _ _).mono ?_
      rintro x w1 ⟨rfl, rfl⟩
      go_wp2
      go_ret
      exact ⟨by simp, by repeat (first | exact Below.refl _ _ | refine Below.drew ?_ | refine Below.setCell ?_ (by simp; try omega) _ | refine Below.alloc ?_ (by simp; try omega) _)⟩
  · by_cases h : lo = 0
    · subst h
      by_cases h2 : hi = 0
      · subst h2
        go_enter Try.func39, Try.ntmps39
        go_wp2
        go_ret
        exact ⟨rfl, by repeat (first | exact Below.refl _ _ | refine Below.drew ?_ | refine Below.setCell ?_ (by simp; try omega) _ | refine Below.alloc ?_ (by simp; try omega) _)⟩
      · have d0 : decide (hi = 0) = false := by simp [h2]
        have d1 : (hi == 0) = false := by simp [h2]
        simp only [goodR, d1]
        go_enter Try.func39, Try.ntmps39
        go_wp2
        go_ret
        exact ⟨rfl, by repeat (first | exact Below.refl _ _ | refine Below.drew ?_ | refine Below.setCell ?_ (by simp; try omega) _ | refine Below.alloc ?_ (by simp; try omega) _)⟩
    · have d0 : decide (lo = 0) = false := by simp [h]
      have d1 : (lo == 0) = false := by simp [h]
      simp only [goodR, d1]
      go_enter Try.func39, Try.ntmps39
      go_wp2
      go_ret
      exact ⟨rfl, by repeat (first | exact Below.refl _ _ | refine Below.drew ?_ | refine Below.setCell ?_ (by simp; try omega) _ | refine Below.alloc ?_ (by simp; try omega) _)⟩

set_option maxRecDepth 100000 in
set_option maxHeartbeats 2000000 in
theorem impl_goodR (e : Bool) (lo hi : Int) (W : World) :
    Calls Try.prog 69 #[.agg #[.bool e, .int .i64 lo, .int .i64 hi]] W fun x W' => x = .returned (.bool (goodR e lo hi)) ∧ Below W.heap.size W W' := by
  have qg := eqGR
  cases e
  · have hg : goodR false lo hi = (inR hi 0 65535 && inR lo 0 hi) := by
      show (inR lo 0 65535 && inR hi lo 65535) = _
      rw [Bool.eq_iff_iff, Bool.and_eq_true, Bool.and_eq_true]
      unfold inR
      simp only [decide_eq_true_eq]
      omega
    rw [hg]
    cases h : inR hi 0 65535
    · go_enter Try.func69, Try.ntmps69
      go_wp2_with fail
      refine (impl_wordR _ _).mono ?_
      rw [h]
      rintro x w1 ⟨rfl, rfl⟩
      go_wp2
      go_ret
      exact ⟨rfl, by repeat (first | exact Below.refl _ _ | refine Below.drew ?_ | refine Below.setCell ?_ (by simp; try omega) _ | refine Below.alloc ?_ (by simp; try omega) _)⟩
    · go_enter Try.func69, Try.ntmps69
      go_wp2_with fail
      refine (impl_wordR _ _).mono ?_
      rw [h]
      rintro x w1 ⟨rfl, rfl⟩
      go_wp2_with fail
      refine (impl_between _ _ _ _).mono ?_
      rintro x w1 ⟨rfl, rfl⟩
      go_wp2
      go_ret
      exact ⟨by simp, by repeat (first | exact Below.refl _ _ | refine Below.drew ?_ | refine Below.setCell ?_ (by simp; try omega) _ | refine Below.alloc ?_ (by simp; try omega) _)⟩
  · by_cases h : lo = 0 ∧ hi = 0
    · obtain ⟨rfl, rfl⟩ := h
      have q : ∀ w : World, (binOp .eql 24 (.agg #[.bool true, .int .i64 0, .int .i64 0]) (.agg #[.bool true, .int .i64 0, .int .i64 0])).run Try.prog w = .ok (.bool true) w := fun w => by rw [eqR]; simp
      go_enter Try.func69, Try.ntmps69
      go_wp2_with fail
      go_region_with (go_at_call 71; refine (impl_none _).mono ?_; rintro x w' ⟨rfl, B⟩; obtain ⟨c1, f1⟩ := bcellR B)
      all_goals
        go_wp2
        go_ret
        exact ⟨rfl, belR (by repeat (first | exact Below.refl _ _ | refine Below.drew ?_ | refine Below.setCell ?_ (by simp; try omega) _ | refine Below.alloc ?_ (by simp; try omega) _)) B⟩
    · have hg : goodR true lo hi = false := by
        simp only [goodR, Bool.and_eq_false_iff]
        by_cases h1 : lo = 0
        · exact Or.inr (by simp; intro h2; exact h ⟨h1, h2⟩)
        · exact Or.inl (by simp [h1])
      rw [hg]
      have q : ∀ w : World, (binOp .eql 24 (.agg #[.bool true, .int .i64 lo, .int .i64 hi]) (.agg #[.bool true, .int .i64 0, .int .i64 0])).run Try.prog w = .ok (.bool false) w := fun w => by rw [eqR, decide_eq_false (by simpa using h)]
      clear h hg
      go_enter Try.func69, Try.ntmps69
      go_wp2_with fail
      go_region_with (go_at_call 71; refine (impl_none _).mono ?_; rintro x w' ⟨rfl, B⟩; obtain ⟨c1, f1⟩ := bcellR B)
      all_goals
        go_wp2
        go_ret
        exact ⟨rfl, belR (by repeat (first | exact Below.refl _ _ | refine Below.drew ?_ | refine Below.setCell ?_ (by simp; try omega) _ | refine Below.alloc ?_ (by simp; try omega) _)) B⟩

end Go.Proofs.Ytoeiijkomjlolab.walks

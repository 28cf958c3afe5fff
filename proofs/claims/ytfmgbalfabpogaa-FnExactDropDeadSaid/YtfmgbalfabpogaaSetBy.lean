/-
  The name that a step sets: what the program's nameSetBy answers for each of the four kinds of steps.
-/
import Derived.Test.YtfmgbalfabpogaaProg
import Derived.Test.YtfmgbalfabpogaaCodeMath
import Derived.Test.YtfmgbalfabpogaaRunMath
import Derived.Test.YtfmgbalfabpogaaStepImpl
import Derived.Test.YtfmgbalfabpogaaStepKinds
import Derived.WalkKit
import Derived.WalkSpells
import Derived.Below
import Derived.Handy
namespace Go.Proofs.Ytfmgbalfabpogaa.walks
open Go.RowKit Go.Proofs.Ytfmgbalfabpogaa.math
set_option linter.unusedVariables false

theorem setby_c (j n : Int) (W : World) :
    Calls Try.prog 61 #[.iface 120 (.agg #[.int .i64 j, .int .i64 n])] W fun e W' => e = .returned (.tuple #[.int .i64 j, .bool true]) ∧ W' = W.alloc (.cells #[.int .i64 j, .int .i64 n] 120) := by
  have q0 := is_cc
  go_enter Try.func61, Try.ntmps61
  go_wp2
  go_ret2
  exact ⟨rfl, rfl⟩
theorem setby_y (j a : Int) (W : World) :
    Calls Try.prog 61 #[.iface 122 (.agg #[.int .i64 j, .int .i64 a])] W fun e W' => e = .returned (.tuple #[.int .i64 j, .bool true]) ∧ W' = W.alloc (.cells #[.int .i64 j, .int .i64 a] 122) := by
  have q0 := is_yc
  have q1 := is_yy
  go_enter Try.func61, Try.ntmps61
  go_wp2
  go_ret2
  exact ⟨rfl, rfl⟩
theorem setby_p (o j a b : Int) (W : World) :
    Calls Try.prog 61 #[.iface 124 (.agg #[.int .i64 o, .int .i64 j, .int .i64 a, .int .i64 b])] W fun e W' => e = .returned (.tuple #[.int .i64 j, .bool true]) ∧ W' = W.alloc (.cells #[.int .i64 o, .int .i64 j, .int .i64 a, .int .i64 b] 124) := by
  have q0 := is_pc
  have q1 := is_py
  have q2 := is_pp
  go_enter Try.func61, Try.ntmps61
  go_wp2
  go_ret2
  exact ⟨rfl, rfl⟩
theorem setby_t (a : Int) (W : World) :
    Calls Try.prog 61 #[.iface 126 (.agg #[.int .i64 a])] W fun e W' => e = .returned (.tuple #[.int .i64 0, .bool false]) ∧ W' = W := by
  have q0 := is_tc
  have q1 := is_ty
  have q2 := is_tp
  go_enter Try.func61, Try.ntmps61
  go_wp2
  go_ret2
  exact ⟨rfl, rfl⟩
/-- A step that sets d. -/
def SetByAns (d : Int) (W : World) (e : Ending) (W' : World) : Prop := e = .returned (.tuple #[.int .i64 d, .bool true]) ∧ Below W.heap.size W W'
theorem impl_setby (o d a b n : Int) (W : World) (hg : goodI o d a b n = true) (h8 : o ≠ 8) : Calls Try.prog 61 #[stepV o d a b n] W fun e W' => e = .returned (.tuple #[.int .i64 d, .bool true]) ∧ ∃ x, W' = W.alloc x := by
  rcases good_cases hg with ⟨rfl, _⟩ | ⟨rfl, _⟩ | ⟨rfl, _⟩ | ⟨⟨o3, o7⟩, _⟩
  · refine (setby_c d n W).mono ?_
    rintro e w' ⟨rfl, rfl⟩
    exact ⟨rfl, _, rfl⟩
  · refine (setby_y d a W).mono ?_
    rintro e w' ⟨rfl, rfl⟩
    exact ⟨rfl, _, rfl⟩
  · exact absurd rfl h8
  · rw [stepV_p o3 o7]
    refine (setby_p o d a b W).mono ?_
    rintro e w' ⟨rfl, rfl⟩
    exact ⟨rfl, _, rfl⟩
theorem impl_setno (d a b n : Int) (W : World) : Calls Try.prog 61 #[stepV 8 d a b n] W fun e W' => e = .returned (.tuple #[.int .i64 0, .bool false]) ∧ W' = W := setby_t a W
end Go.Proofs.Ytfmgbalfabpogaa.walks

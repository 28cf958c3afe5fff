/-
  What is a number of units, to the specification and to the program.
-/
import Derived.Test.YtbnddgdembmooaaProg
import Derived.Test.YtbnddgdembmooaaMagMath
import Derived.Test.YtbnddgdembmooaaTaskSpec
import Derived.Test.YtbnddgdembmooaaTaskImpl
import Derived.WalkKit
import Derived.WalkSpells
import Derived.Below
import Derived.Handy
namespace Go.Proofs.Ytbnddgdembmooaa.walks
open Go.RowKit Go.Proofs.Ytbnddgdembmooaa.math
set_option linter.unusedVariables false

theorem spec_units (u : Int) (W : World) : Calls Try.prog 35 #[.int .i64 u] W fun e W' => e = .returned (.bool (inR u 1 4)) ∧ W' = W := by
  go_enter Try.func35, Try.ntmps35
  go_wp2_with (go_at_call 30; refine (spec_in _ _ _ _).mono ?_; rintro e w' ⟨rfl, hw⟩; rw [hw]; clear hw w')
  go_ret
  exact ⟨rfl, rfl⟩
theorem impl_units (u : Int) (W : World) : Calls Try.prog 37 #[.int .i64 u] W fun e W' => e = .returned (.bool (inR u 1 4)) ∧ W' = W := by
  go_enter Try.func37, Try.ntmps37
  go_wp2_with (go_at_call 32; refine (impl_between _ _ _ _).mono ?_; rintro e w' ⟨rfl, hw⟩; rw [hw]; clear hw w')
  go_ret
  exact ⟨rfl, rfl⟩
theorem units_spec {u : Int} {b : Bool} (h : inR u 1 4 = b) (W : World) : Calls Try.prog 35 #[.int .i64 u] W fun e W' => e = .returned (.bool b) ∧ W' = W := by
  have := spec_units u W
  rw [h] at this
  exact this
theorem units_impl {u : Int} {b : Bool} (h : inR u 1 4 = b) (W : World) : Calls Try.prog 37 #[.int .i64 u] W fun e W' => e = .returned (.bool b) ∧ W' = W := by
  have := impl_units u W
  rw [h] at this
  exact this
end Go.Proofs.Ytbnddgdembmooaa.walks

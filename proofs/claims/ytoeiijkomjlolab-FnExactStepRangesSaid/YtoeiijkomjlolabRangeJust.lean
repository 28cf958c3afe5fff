/-
  The range of just one word, of the program; it makes new memory alone.
-/
import Derived.Test.YtoeiijkomjlolabProg
import Derived.Test.YtoeiijkomjlolabRangeGood
import Derived.WalkKit
import Derived.WalkSpells
import Derived.Below
namespace Go.Proofs.Ytoeiijkomjlolab.walks
open Go.RowKit Go.Proofs.Ytoeiijkomjlolab.math
theorem impl_justR (n : Int) (W : World) : Calls Try.prog 89 #[.int .i64 n] W fun e W' => e = .returned (.agg #[.bool false, .int .i64 n, .int .i64 n]) ∧ Below W.heap.size W W' := by
  go_enter Try.func89, Try.ntmps89
  go_wp2
  exact bodyPost_ret (v := .agg #[.bool false, .int .i64 n, .int .i64 n]) (by simp [results, Try.results89, go_sem]) rfl ⟨rfl, by
    repeat (first | exact Below.refl _ _ | refine Below.drew ?_ | refine Below.setCell ?_ (by simp; try omega) _ | refine Below.alloc ?_ (by simp; try omega) _)⟩
end Go.Proofs.Ytoeiijkomjlolab.walks

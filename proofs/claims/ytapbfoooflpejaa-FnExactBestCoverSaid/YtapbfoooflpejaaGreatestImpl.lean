/-
  What the program's greatestAt answers; it makes new memory alone.
-/
import Derived.Test.YtapbfoooflpejaaProg
import Derived.Test.YtapbfoooflpejaaGreedyMath
import Derived.Test.YtapbfoooflpejaaCoverImpl
namespace Go.Proofs.Ytapbfoooflpejaa.walks
open Go.RowKit Go.Proofs.Ytapbfoooflpejaa.math Go.Proofs.Ytapbfoooflpejaa.ints
set_option linter.unusedVariables false
set_option maxRecDepth 100000

/-- A choice as an answer. -/
def chV (o : Option Nat) : Value := match o with
  | none => .tuple #[.int .i64 0, .bool false]
  | some k => .tuple #[.int .i64 (k : Int), .bool true]
/-- What a call of a choosing function answers. -/
def ChAns (o : Option Nat) (W : World) (e : Ending) (W' : World) : Prop := (∃ (x : Int), e = .returned (.tuple #[.int .i64 x, .bool o.isSome]) ∧ ∀ k, o = some k → x = (k : Int)) ∧ Below W.heap.size W W'
theorem gr_small {t : List Int} {f : Nat → Pv} {a : Nat} : ∀ {k : Nat}, (∀ j, j < k → (f j).zs.length ≤ 10) → ∀ (m : Nat := k), m ≤ k → (grTo t f a m).2 ≤ 10 := by
  intro k h m hm
  by_cases q : 0 < (grTo t f a m).2
  · have e := gr_inv t f a m q
    rw [e.2.2]
    exact Nat.le_trans (named_le _ _) (h _ (by omega))
  · omega
end Go.Proofs.Ytapbfoooflpejaa.walks

/-
  What pieces cost.
-/
import Derived.Test.YtapbfoooflpejaaCoverMath
namespace Go.Proofs.Ytapbfoooflpejaa.walks
/-- What the first i pieces cost. -/
def costTo (f : Nat → Pv) (z : List Int) : Nat → Int
  | 0 => 0
  | i + 1 => costTo f z i + (f (z.getD (i * 2 + 1) 0).toNat).c
end Go.Proofs.Ytapbfoooflpejaa.walks

/-
  What the function by which IsCover chooses answers: the next piece's pattern, if the piece is good there; it counts the piece.
-/
import Derived.Test.YtapbfoooflpejaaProg
import Derived.Test.YtapbfoooflpejaaMagMath
import Derived.Test.YtapbfoooflpejaaCoverMath
import Derived.Test.YtapbfoooflpejaaPatImpl
import Derived.Test.YtapbfoooflpejaaInts
import Derived.WalkKit
import Derived.WalkSpells
import Derived.Below
import Derived.Handy
import Derived.Deep.QuietTactic
import Derived.BigQuiet
namespace Go.Proofs.Ytapbfoooflpejaa.walks
open Go.RowKit Go.Proofs.Ytapbfoooflpejaa.math Go.Proofs.Ytapbfoooflpejaa.ints
set_option linter.unusedVariables false
set_option maxRecDepth 100000

/-- The piece is good at the place. -/
def pickB (n len i : Nat) (x y a : Int) : Bool := decide (i < len) && (decide (x = a) && inR y 0 ((n : Int) - 1))
end Go.Proofs.Ytapbfoooflpejaa.walks

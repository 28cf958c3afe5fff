/-
  What the specification's PathOf and RunFlow answer, at every flow, every list of words and every fuel.
-/
import Derived.Test.YtgknofbkdgbokaaProg
import Derived.Test.YtgknofbkdgbokaaFlow
import Derived.Test.YtgknofbkdgbokaaFlowEq
import Derived.Test.YtgknofbkdgbokaaFlowRun
import Derived.Test.YtgknofbkdgbokaaFlowSpec
import Derived.Test.YtgknofbkdgbokaaSpecFlow
import Derived.Test.YtgknofbkdgbokaaCodeRun
import Derived.WalkKit
import Derived.WalkSpells
import Derived.Below
import Derived.Handy
namespace Go.Proofs.Ytgknofbkdgbokaa.walks
open Go.RowKit Go.Proofs.Ytgknofbkdgbokaa.math Go.Proofs.Ytgknofbkdgbokaa.ints
set_option linter.unusedVariables false

def okRun (f : Nat → Bv) (n : Nat) (ws : List Int) (fuel : Int) : Bool := flowB f n && wordsB ws && inR fuel 0 300
end Go.Proofs.Ytgknofbkdgbokaa.walks

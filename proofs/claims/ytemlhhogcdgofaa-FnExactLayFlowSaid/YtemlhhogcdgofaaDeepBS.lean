/-
  What the laws' own helpers do on data: EdgeS, InstrS, BlockS, IntSS.
-/
import Derived.Test.YtemlhhogcdgofaaProg
import Derived.Test.YtemlhhogcdgofaaDeep
import Derived.Test.YtemlhhogcdgofaaDeepOpen
import Derived.Test.YtemlhhogcdgofaaDeepRow
import Derived.WalkKit
import Derived.WalkSpells
import Derived.Below
import Derived.Handy
import Derived.Deep.OwnRows
import Derived.Deep.RegionWith
import Derived.Laws.MakeOwn
namespace Go.Proofs.Ytemlhhogcdgofaa.deep
open Go.RowKit Go.Proofs.Ytemlhhogcdgofaa.ints
set_option linter.unusedVariables false

def shIntSS : Sh := .l 1 (fun _ => shI)
theorem thin_IntSS : Thin shIntSS := ⟨by decide, fun i => by
  exact ⟨by decide, fun _ => trivial⟩⟩
end Go.Proofs.Ytemlhhogcdgofaa.deep

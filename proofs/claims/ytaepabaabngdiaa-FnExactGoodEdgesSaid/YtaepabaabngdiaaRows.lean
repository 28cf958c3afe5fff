/-
  No cell of these rows narrows 'for every input' (looked for: loops, veiled, ifaces, maps, wideKeys, modest, calm, conditions, laid).
  DERIVED. THE GIVEN ROWS OF THIS SEAT. 6 by the template 'for every input the law returns true; each argument reads behind the call as it read before'; 0 by the template 'total and deterministic' (their statements: YtaepabaabngdiaaTotals.lean).
  GIVEN WITH THE SEED: the statements are not yours to turn. If you find one false, say at which input.
  Laid BY PROGRAM, IN A SANDBOX (cutbox-rows.mjs): the forced cells as the released guide's own fill.sh prints them over the translation ef1f1a7c891a868f… (all of the seat's roots in one cut). By AI agents, Wed Nov 11 2026. No macro, syntax, notation, axiom, sorry.
-/
import Derived.Test.YtaepabaabngdiaaChecked
import GoSem.Claim
import GoSem.ClaimJoined
import GoSem.ClaimMapViews
import Derived.JoinedTies
import Derived.KernelRfl
namespace Go.Proofs.Ytaepabaabngdiaa
/- THE CELL 'sum', in the pinned program and in every row, IS THE sha256 OF THE DUMP (.gsa) THAT YtaepabaabngdiaaProg.lean LOADS. Nothing in Lean hashes anything: it is a label: what it is worth is what the hold of that sum in a sandbox is worth. -/
noncomputable def Try.pinned : Pinned := { name := "ytaepabaabngdiaa", sum := "ef1f1a7c891a868f72b0c7b25a8a6014cc3bde9e527dcc7a80a44df56c9652de", checked := Try.checked }
namespace Rows
def none {H : Type} : Left H := { results := [], args := [] }

/-- 'laws.FnExactGoodEdges': WHATEVER THE INPUT: true; the input reads as it did. -/
def fnExactGoodEdgesSpec : ChangeSpec := { name := "fnExactGoodEdges", fn := fun _ => fun
  | [d1, d2] => { results := [.lit (.bool true)], args := [d1, d2] }
  | _ => none }
def fnExactGoodEdgesRow : OpenClaim := { program := "ytaepabaabngdiaa", sum := "ef1f1a7c891a868f72b0c7b25a8a6014cc3bde9e527dcc7a80a44df56c9652de", func := "loop.example/g00350/laws.FnExactGoodEdges", spec := "fnExactGoodEdges", apart := false }
def FnExactGoodEdgesSaid : Prop := fnExactGoodEdgesRow.holds Try.pinned (OpenSpec.ofChange fnExactGoodEdgesSpec)

/-- ITS FALSE NEIGHBOUR: 'it returns false'. Refute it at one input. -/
def fnExactGoodEdgesWrong : ChangeSpec := { name := "fnExactGoodEdges", fn := fun _ => fun
  | [d1, d2] => { results := [.lit (.bool false)], args := [d1, d2] }
  | _ => none }
def FnExactGoodEdgesWrongFalsely : Prop := fnExactGoodEdgesRow.holds Try.pinned (OpenSpec.ofChange fnExactGoodEdgesWrong)

/-- 'laws.FnExactChainsOf': WHATEVER THE INPUT: true; the input reads as it did. -/
def fnExactChainsOfSpec : ChangeSpec := { name := "fnExactChainsOf", fn := fun _ => fun
  | [d1, d2] => { results := [.lit (.bool true)], args := [d1, d2] }
  | _ => none }
def fnExactChainsOfRow : OpenClaim := { program := "ytaepabaabngdiaa", sum := "ef1f1a7c891a868f72b0c7b25a8a6014cc3bde9e527dcc7a80a44df56c9652de", func := "loop.example/g00350/laws.FnExactChainsOf", spec := "fnExactChainsOf", unfollowed := true, recurses := true, apart := false }
def FnExactChainsOfSaid : Prop := fnExactChainsOfRow.holds Try.pinned (OpenSpec.ofChange fnExactChainsOfSpec)

/-- ITS FALSE NEIGHBOUR: 'it returns false'. Refute it at one input. -/
def fnExactChainsOfWrong : ChangeSpec := { name := "fnExactChainsOf", fn := fun _ => fun
  | [d1, d2] => { results := [.lit (.bool false)], args := [d1, d2] }
  | _ => none }
def FnExactChainsOfWrongFalsely : Prop := fnExactChainsOfRow.holds Try.pinned (OpenSpec.ofChange fnExactChainsOfWrong)

/-- 'laws.FnExactLayOut': WHATEVER THE INPUT: true; the input reads as it did. -/
def fnExactLayOutSpec : ChangeSpec := { name := "fnExactLayOut", fn := fun _ => fun
  | [d1, d2] => { results := [.lit (.bool true)], args := [d1, d2] }
  | _ => none }
def fnExactLayOutRow : OpenClaim := { program := "ytaepabaabngdiaa", sum := "ef1f1a7c891a868f72b0c7b25a8a6014cc3bde9e527dcc7a80a44df56c9652de", func := "loop.example/g00350/laws.FnExactLayOut", spec := "fnExactLayOut", unfollowed := true, recurses := true, apart := false }
def FnExactLayOutSaid : Prop := fnExactLayOutRow.holds Try.pinned (OpenSpec.ofChange fnExactLayOutSpec)

/-- ITS FALSE NEIGHBOUR: 'it returns false'. Refute it at one input. -/
def fnExactLayOutWrong : ChangeSpec := { name := "fnExactLayOut", fn := fun _ => fun
  | [d1, d2] => { results := [.lit (.bool false)], args := [d1, d2] }
  | _ => none }
def FnExactLayOutWrongFalsely : Prop := fnExactLayOutRow.holds Try.pinned (OpenSpec.ofChange fnExactLayOutWrong)

/-- 'laws.FnExactStraightIn': WHATEVER THE INPUT: true; the input reads as it did. -/
def fnExactStraightInSpec : ChangeSpec := { name := "fnExactStraightIn", fn := fun _ => fun
  | [d1, d2, d3] => { results := [.lit (.bool true)], args := [d1, d2, d3] }
  | _ => none }
def fnExactStraightInRow : OpenClaim := { program := "ytaepabaabngdiaa", sum := "ef1f1a7c891a868f72b0c7b25a8a6014cc3bde9e527dcc7a80a44df56c9652de", func := "loop.example/g00350/laws.FnExactStraightIn", spec := "fnExactStraightIn", apart := false }
def FnExactStraightInSaid : Prop := fnExactStraightInRow.holds Try.pinned (OpenSpec.ofChange fnExactStraightInSpec)

/-- ITS FALSE NEIGHBOUR: 'it returns false'. Refute it at one input. -/
def fnExactStraightInWrong : ChangeSpec := { name := "fnExactStraightIn", fn := fun _ => fun
  | [d1, d2, d3] => { results := [.lit (.bool false)], args := [d1, d2, d3] }
  | _ => none }
def FnExactStraightInWrongFalsely : Prop := fnExactStraightInRow.holds Try.pinned (OpenSpec.ofChange fnExactStraightInWrong)

/-- 'laws.FnExactJumpsIn': WHATEVER THE INPUT: true; the input reads as it did. -/
def fnExactJumpsInSpec : ChangeSpec := { name := "fnExactJumpsIn", fn := fun _ => fun
  | [d1, d2, d3] => { results := [.lit (.bool true)], args := [d1, d2, d3] }
  | _ => none }
def fnExactJumpsInRow : OpenClaim := { program := "ytaepabaabngdiaa", sum := "ef1f1a7c891a868f72b0c7b25a8a6014cc3bde9e527dcc7a80a44df56c9652de", func := "loop.example/g00350/laws.FnExactJumpsIn", spec := "fnExactJumpsIn", apart := false }
def FnExactJumpsInSaid : Prop := fnExactJumpsInRow.holds Try.pinned (OpenSpec.ofChange fnExactJumpsInSpec)

/-- ITS FALSE NEIGHBOUR: 'it returns false'. Refute it at one input. -/
def fnExactJumpsInWrong : ChangeSpec := { name := "fnExactJumpsIn", fn := fun _ => fun
  | [d1, d2, d3] => { results := [.lit (.bool false)], args := [d1, d2, d3] }
  | _ => none }
def FnExactJumpsInWrongFalsely : Prop := fnExactJumpsInRow.holds Try.pinned (OpenSpec.ofChange fnExactJumpsInWrong)

/-- 'laws.FnExactIsLayout': WHATEVER THE INPUT: true; the input reads as it did. -/
def fnExactIsLayoutSpec : ChangeSpec := { name := "fnExactIsLayout", fn := fun _ => fun
  | [d1, d2] => { results := [.lit (.bool true)], args := [d1, d2] }
  | _ => none }
def fnExactIsLayoutRow : OpenClaim := { program := "ytaepabaabngdiaa", sum := "ef1f1a7c891a868f72b0c7b25a8a6014cc3bde9e527dcc7a80a44df56c9652de", func := "loop.example/g00350/laws.FnExactIsLayout", spec := "fnExactIsLayout", apart := false }
def FnExactIsLayoutSaid : Prop := fnExactIsLayoutRow.holds Try.pinned (OpenSpec.ofChange fnExactIsLayoutSpec)

/-- ITS FALSE NEIGHBOUR: 'it returns false'. Refute it at one input. -/
def fnExactIsLayoutWrong : ChangeSpec := { name := "fnExactIsLayout", fn := fun _ => fun
  | [d1, d2] => { results := [.lit (.bool false)], args := [d1, d2] }
  | _ => none }
def FnExactIsLayoutWrongFalsely : Prop := fnExactIsLayoutRow.holds Try.pinned (OpenSpec.ofChange fnExactIsLayoutWrong)

/- THE SECOND FORM. 'bulk': how many values and letters a reading holds, each counted each time it is reached (what is shared counts as often as it is met; a slice's spare places count too). A statement '..UptoSaid' is the law's where the arguments, and the package variables that the reading takes, are together of bulk at most 1048576: NARROWER than '..Said'. Prove '..Said' where nothing that the law and all that it calls make is longer than what came in: it says more and counts as full. Else prove '..UptoSaid'. A law counts once. -/
mutual
def uptoBulk {H : Type} : DataW H → Nat
  | .lit (.string bytes) => bytes.length + 1
  | .lit _ => 1
  | .nil => 1
  | .ptr d => uptoBulk d + 1
  | .slice elems spare => uptoBulkAll elems + uptoBulkAll spare + 1
  | .agg parts => uptoBulkAll parts + 1
  | .iface _ d => uptoBulk d + 1
  | .map entries => uptoBulkEntries entries + 1
  | .held _ => 1
def uptoBulkAll {H : Type} : List (DataW H) → Nat
  | [] => 0
  | d :: r => uptoBulk d + uptoBulkAll r
def uptoBulkEntries {H : Type} : List (Lit × DataW H) → Nat
  | [] => 0
  | x :: r => uptoBulkEntry x + uptoBulkEntries r
def uptoBulkEntry {H : Type} : Lit × DataW H → Nat
  | (.string bytes, d) => bytes.length + uptoBulk d + 1
  | (_, d) => uptoBulk d + 1
 end
def uptoSmall : (H : Type) → List (DataW H) → Bool := fun _ ds => decide (uptoBulkAll ds ≤ 1048576)
def OpenSpec.upto (s : _root_.Go.ChangeSpec) : _root_.Go.OpenSpec := { _root_.Go.OpenSpec.ofChange s with cond := some uptoSmall }

/-- 'laws.FnExactGoodEdges', WHERE WHAT IT READS IS OF BULK AT MOST 1048576: true; the input reads as it did. -/
def fnExactGoodEdgesUptoRow : OpenClaim := { program := "ytaepabaabngdiaa", sum := "ef1f1a7c891a868f72b0c7b25a8a6014cc3bde9e527dcc7a80a44df56c9652de", func := "loop.example/g00350/laws.FnExactGoodEdges", spec := "fnExactGoodEdges", apart := false, narrowed := true }
def FnExactGoodEdgesUptoSaid : Prop := fnExactGoodEdgesUptoRow.holds Try.pinned (OpenSpec.upto fnExactGoodEdgesSpec)

/-- 'laws.FnExactChainsOf', WHERE WHAT IT READS IS OF BULK AT MOST 1048576: true; the input reads as it did. -/
def fnExactChainsOfUptoRow : OpenClaim := { program := "ytaepabaabngdiaa", sum := "ef1f1a7c891a868f72b0c7b25a8a6014cc3bde9e527dcc7a80a44df56c9652de", func := "loop.example/g00350/laws.FnExactChainsOf", spec := "fnExactChainsOf", unfollowed := true, recurses := true, apart := false, narrowed := true }
def FnExactChainsOfUptoSaid : Prop := fnExactChainsOfUptoRow.holds Try.pinned (OpenSpec.upto fnExactChainsOfSpec)

/-- 'laws.FnExactLayOut', WHERE WHAT IT READS IS OF BULK AT MOST 1048576: true; the input reads as it did. -/
def fnExactLayOutUptoRow : OpenClaim := { program := "ytaepabaabngdiaa", sum := "ef1f1a7c891a868f72b0c7b25a8a6014cc3bde9e527dcc7a80a44df56c9652de", func := "loop.example/g00350/laws.FnExactLayOut", spec := "fnExactLayOut", unfollowed := true, recurses := true, apart := false, narrowed := true }
def FnExactLayOutUptoSaid : Prop := fnExactLayOutUptoRow.holds Try.pinned (OpenSpec.upto fnExactLayOutSpec)

/-- 'laws.FnExactStraightIn', WHERE WHAT IT READS IS OF BULK AT MOST 1048576: true; the input reads as it did. -/
def fnExactStraightInUptoRow : OpenClaim := { program := "ytaepabaabngdiaa", sum := "ef1f1a7c891a868f72b0c7b25a8a6014cc3bde9e527dcc7a80a44df56c9652de", func := "loop.example/g00350/laws.FnExactStraightIn", spec := "fnExactStraightIn", apart := false, narrowed := true }
def FnExactStraightInUptoSaid : Prop := fnExactStraightInUptoRow.holds Try.pinned (OpenSpec.upto fnExactStraightInSpec)

/-- 'laws.FnExactJumpsIn', WHERE WHAT IT READS IS OF BULK AT MOST 1048576: true; the input reads as it did. -/
def fnExactJumpsInUptoRow : OpenClaim := { program := "ytaepabaabngdiaa", sum := "ef1f1a7c891a868f72b0c7b25a8a6014cc3bde9e527dcc7a80a44df56c9652de", func := "loop.example/g00350/laws.FnExactJumpsIn", spec := "fnExactJumpsIn", apart := false, narrowed := true }
def FnExactJumpsInUptoSaid : Prop := fnExactJumpsInUptoRow.holds Try.pinned (OpenSpec.upto fnExactJumpsInSpec)

/-- 'laws.FnExactIsLayout', WHERE WHAT IT READS IS OF BULK AT MOST 1048576: true; the input reads as it did. -/
def fnExactIsLayoutUptoRow : OpenClaim := { program := "ytaepabaabngdiaa", sum := "ef1f1a7c891a868f72b0c7b25a8a6014cc3bde9e527dcc7a80a44df56c9652de", func := "loop.example/g00350/laws.FnExactIsLayout", spec := "fnExactIsLayout", apart := false, narrowed := true }
def FnExactIsLayoutUptoSaid : Prop := fnExactIsLayoutUptoRow.holds Try.pinned (OpenSpec.upto fnExactIsLayoutSpec)

end Rows
end Go.Proofs.Ytaepabaabngdiaa

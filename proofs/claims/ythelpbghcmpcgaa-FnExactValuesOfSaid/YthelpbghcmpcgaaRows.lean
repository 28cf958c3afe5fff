/-
  No cell of these rows narrows 'for every input' (looked for: loops, veiled, ifaces, maps, wideKeys, modest, calm, conditions, laid).
  DERIVED. THE GIVEN ROWS OF THIS SEAT. 5 by the template 'for every input the law returns true; each argument reads behind the call as it read before'; 0 by the template 'total and deterministic' (their statements: YthelpbghcmpcgaaTotals.lean).
  GIVEN WITH THE SEED: the statements are not yours to turn. If you find one false, say at which input.
  Laid BY PROGRAM, IN A SANDBOX (cutbox-rows.mjs): the forced cells as the released guide's own fill.sh prints them over the translation b9ea859a959f67d3… (all of the seat's roots in one cut). By AI agents, Wed Nov 11 2026. No macro, syntax, notation, axiom, sorry.
-/
import Derived.Test.YthelpbghcmpcgaaChecked
import GoSem.Claim
import GoSem.ClaimJoined
import GoSem.ClaimMapViews
import Derived.JoinedTies
import Derived.KernelRfl
namespace Go.Proofs.Ythelpbghcmpcgaa
/- THE CELL 'sum', in the pinned program and in every row, IS THE sha256 OF THE DUMP (.gsa) THAT YthelpbghcmpcgaaProg.lean LOADS. Nothing in Lean hashes anything: it is a label: what it is worth is what the hold of that sum in a sandbox is worth. -/
noncomputable def Try.pinned : Pinned := { name := "ythelpbghcmpcgaa", sum := "b9ea859a959f67d3005c901f9239bfd5ae0a2a0cec9b4b8fc31d30dc57b72472", checked := Try.checked }
namespace Rows
def none {H : Type} : Left H := { results := [], args := [] }

/-- 'laws.FnExactValuesOf': WHATEVER THE INPUT: true; the input reads as it did. -/
def fnExactValuesOfSpec : ChangeSpec := { name := "fnExactValuesOf", fn := fun _ => fun
  | [d] => { results := [.lit (.bool true)], args := [d] }
  | _ => none }
def fnExactValuesOfRow : OpenClaim := { program := "ythelpbghcmpcgaa", sum := "b9ea859a959f67d3005c901f9239bfd5ae0a2a0cec9b4b8fc31d30dc57b72472", func := "loop.example/g00350/laws.FnExactValuesOf", spec := "fnExactValuesOf", unfollowed := true, recurses := true, plainKeys := false, apart := false }
def FnExactValuesOfSaid : Prop := fnExactValuesOfRow.holds Try.pinned (OpenSpec.ofChange fnExactValuesOfSpec)

/-- ITS FALSE NEIGHBOUR: 'it returns false'. Refute it at one input. -/
def fnExactValuesOfWrong : ChangeSpec := { name := "fnExactValuesOf", fn := fun _ => fun
  | [d] => { results := [.lit (.bool false)], args := [d] }
  | _ => none }
def FnExactValuesOfWrongFalsely : Prop := fnExactValuesOfRow.holds Try.pinned (OpenSpec.ofChange fnExactValuesOfWrong)

/-- 'laws.FnExactNumberCode': WHATEVER THE INPUT: true; the input reads as it did. -/
def fnExactNumberCodeSpec : ChangeSpec := { name := "fnExactNumberCode", fn := fun _ => fun
  | [d] => { results := [.lit (.bool true)], args := [d] }
  | _ => none }
def fnExactNumberCodeRow : OpenClaim := { program := "ythelpbghcmpcgaa", sum := "b9ea859a959f67d3005c901f9239bfd5ae0a2a0cec9b4b8fc31d30dc57b72472", func := "loop.example/g00350/laws.FnExactNumberCode", spec := "fnExactNumberCode", unfollowed := true, recurses := true, plainKeys := false, apart := false }
def FnExactNumberCodeSaid : Prop := fnExactNumberCodeRow.holds Try.pinned (OpenSpec.ofChange fnExactNumberCodeSpec)

/-- ITS FALSE NEIGHBOUR: 'it returns false'. Refute it at one input. -/
def fnExactNumberCodeWrong : ChangeSpec := { name := "fnExactNumberCode", fn := fun _ => fun
  | [d] => { results := [.lit (.bool false)], args := [d] }
  | _ => none }
def FnExactNumberCodeWrongFalsely : Prop := fnExactNumberCodeRow.holds Try.pinned (OpenSpec.ofChange fnExactNumberCodeWrong)

/-- 'laws.FnExactCostOf': WHATEVER THE INPUT: true; the input reads as it did. -/
def fnExactCostOfSpec : ChangeSpec := { name := "fnExactCostOf", fn := fun _ => fun
  | [d] => { results := [.lit (.bool true)], args := [d] }
  | _ => none }
def fnExactCostOfRow : OpenClaim := { program := "ythelpbghcmpcgaa", sum := "b9ea859a959f67d3005c901f9239bfd5ae0a2a0cec9b4b8fc31d30dc57b72472", func := "loop.example/g00350/laws.FnExactCostOf", spec := "fnExactCostOf", unfollowed := true, recurses := true, plainKeys := false, apart := false }
def FnExactCostOfSaid : Prop := fnExactCostOfRow.holds Try.pinned (OpenSpec.ofChange fnExactCostOfSpec)

/-- ITS FALSE NEIGHBOUR: 'it returns false'. Refute it at one input. -/
def fnExactCostOfWrong : ChangeSpec := { name := "fnExactCostOf", fn := fun _ => fun
  | [d] => { results := [.lit (.bool false)], args := [d] }
  | _ => none }
def FnExactCostOfWrongFalsely : Prop := fnExactCostOfRow.holds Try.pinned (OpenSpec.ofChange fnExactCostOfWrong)

/-- 'laws.FnExactSameValue': WHATEVER THE INPUT: true; the input reads as it did. -/
def fnExactSameValueSpec : ChangeSpec := { name := "fnExactSameValue", fn := fun _ => fun
  | [d1, d2, d3] => { results := [.lit (.bool true)], args := [d1, d2, d3] }
  | _ => none }
def fnExactSameValueRow : OpenClaim := { program := "ythelpbghcmpcgaa", sum := "b9ea859a959f67d3005c901f9239bfd5ae0a2a0cec9b4b8fc31d30dc57b72472", func := "loop.example/g00350/laws.FnExactSameValue", spec := "fnExactSameValue", unfollowed := true, recurses := true, plainKeys := false, apart := false }
def FnExactSameValueSaid : Prop := fnExactSameValueRow.holds Try.pinned (OpenSpec.ofChange fnExactSameValueSpec)

/-- ITS FALSE NEIGHBOUR: 'it returns false'. Refute it at one input. -/
def fnExactSameValueWrong : ChangeSpec := { name := "fnExactSameValue", fn := fun _ => fun
  | [d1, d2, d3] => { results := [.lit (.bool false)], args := [d1, d2, d3] }
  | _ => none }
def FnExactSameValueWrongFalsely : Prop := fnExactSameValueRow.holds Try.pinned (OpenSpec.ofChange fnExactSameValueWrong)

/-- 'laws.FnExactKnownAt': WHATEVER THE INPUT: true; the input reads as it did. -/
def fnExactKnownAtSpec : ChangeSpec := { name := "fnExactKnownAt", fn := fun _ => fun
  | [d] => { results := [.lit (.bool true)], args := [d] }
  | _ => none }
def fnExactKnownAtRow : OpenClaim := { program := "ythelpbghcmpcgaa", sum := "b9ea859a959f67d3005c901f9239bfd5ae0a2a0cec9b4b8fc31d30dc57b72472", func := "loop.example/g00350/laws.FnExactKnownAt", spec := "fnExactKnownAt", unfollowed := true, recurses := true, plainKeys := false, apart := false }
def FnExactKnownAtSaid : Prop := fnExactKnownAtRow.holds Try.pinned (OpenSpec.ofChange fnExactKnownAtSpec)

/-- ITS FALSE NEIGHBOUR: 'it returns false'. Refute it at one input. -/
def fnExactKnownAtWrong : ChangeSpec := { name := "fnExactKnownAt", fn := fun _ => fun
  | [d] => { results := [.lit (.bool false)], args := [d] }
  | _ => none }
def FnExactKnownAtWrongFalsely : Prop := fnExactKnownAtRow.holds Try.pinned (OpenSpec.ofChange fnExactKnownAtWrong)

/- THE SECOND FORM. 'bulk': how many values and letters a reading holds, each counted each time it is reached (what is shared counts as often as it is met; a slice's spare places count too). A statement '..UptoSaid' is the law's where the arguments, and the package variables that the reading takes, are together of bulk at most 1048576: NARROWER than '..Said'. Prove '..Said' where nothing that the law and all that it calls make is longer than what came in: it says more and counts as full. Else prove '..UptoSaid'. A law counts once. -/
mutual
def uptoBulk {H : Type} : DataW H → Nat
  | .lit (.string bytes) => bytes.length + 1
  | .lit _ => 1
  | .nil => 1
  | .ptr d => uptoBulk d + 1
  | .slice elems spare => uptoBulkAll elems + uptoBulkAll spare + 1
  | .agg parts => uptoBulkAll parts + 1
  | .iface _ d => uptoBulk d + 1
  | .map entries => uptoBulkEntries entries + 1
  | .held _ => 1
def uptoBulkAll {H : Type} : List (DataW H) → Nat
  | [] => 0
  | d :: r => uptoBulk d + uptoBulkAll r
def uptoBulkEntries {H : Type} : List (Lit × DataW H) → Nat
  | [] => 0
  | x :: r => uptoBulkEntry x + uptoBulkEntries r
def uptoBulkEntry {H : Type} : Lit × DataW H → Nat
  | (.string bytes, d) => bytes.length + uptoBulk d + 1
  | (_, d) => uptoBulk d + 1
 end
def uptoSmall : (H : Type) → List (DataW H) → Bool := fun _ ds => decide (uptoBulkAll ds ≤ 1048576)
def OpenSpec.upto (s : _root_.Go.ChangeSpec) : _root_.Go.OpenSpec := { _root_.Go.OpenSpec.ofChange s with cond := some uptoSmall }

/-- 'laws.FnExactValuesOf', WHERE WHAT IT READS IS OF BULK AT MOST 1048576: true; the input reads as it did. -/
def fnExactValuesOfUptoRow : OpenClaim := { program := "ythelpbghcmpcgaa", sum := "b9ea859a959f67d3005c901f9239bfd5ae0a2a0cec9b4b8fc31d30dc57b72472", func := "loop.example/g00350/laws.FnExactValuesOf", spec := "fnExactValuesOf", unfollowed := true, recurses := true, plainKeys := false, apart := false, narrowed := true }
def FnExactValuesOfUptoSaid : Prop := fnExactValuesOfUptoRow.holds Try.pinned (OpenSpec.upto fnExactValuesOfSpec)

/-- 'laws.FnExactNumberCode', WHERE WHAT IT READS IS OF BULK AT MOST 1048576: true; the input reads as it did. -/
def fnExactNumberCodeUptoRow : OpenClaim := { program := "ythelpbghcmpcgaa", sum := "b9ea859a959f67d3005c901f9239bfd5ae0a2a0cec9b4b8fc31d30dc57b72472", func := "loop.example/g00350/laws.FnExactNumberCode", spec := "fnExactNumberCode", unfollowed := true, recurses := true, plainKeys := false, apart := false, narrowed := true }
def FnExactNumberCodeUptoSaid : Prop := fnExactNumberCodeUptoRow.holds Try.pinned (OpenSpec.upto fnExactNumberCodeSpec)

/-- 'laws.FnExactCostOf', WHERE WHAT IT READS IS OF BULK AT MOST 1048576: true; the input reads as it did. -/
def fnExactCostOfUptoRow : OpenClaim := { program := "ythelpbghcmpcgaa", sum := "b9ea859a959f67d3005c901f9239bfd5ae0a2a0cec9b4b8fc31d30dc57b72472", func := "loop.example/g00350/laws.FnExactCostOf", spec := "fnExactCostOf", unfollowed := true, recurses := true, plainKeys := false, apart := false, narrowed := true }
def FnExactCostOfUptoSaid : Prop := fnExactCostOfUptoRow.holds Try.pinned (OpenSpec.upto fnExactCostOfSpec)

/-- 'laws.FnExactSameValue', WHERE WHAT IT READS IS OF BULK AT MOST 1048576: true; the input reads as it did. -/
def fnExactSameValueUptoRow : OpenClaim := { program := "ythelpbghcmpcgaa", sum := "b9ea859a959f67d3005c901f9239bfd5ae0a2a0cec9b4b8fc31d30dc57b72472", func := "loop.example/g00350/laws.FnExactSameValue", spec := "fnExactSameValue", unfollowed := true, recurses := true, plainKeys := false, apart := false, narrowed := true }
def FnExactSameValueUptoSaid : Prop := fnExactSameValueUptoRow.holds Try.pinned (OpenSpec.upto fnExactSameValueSpec)

/-- 'laws.FnExactKnownAt', WHERE WHAT IT READS IS OF BULK AT MOST 1048576: true; the input reads as it did. -/
def fnExactKnownAtUptoRow : OpenClaim := { program := "ythelpbghcmpcgaa", sum := "b9ea859a959f67d3005c901f9239bfd5ae0a2a0cec9b4b8fc31d30dc57b72472", func := "loop.example/g00350/laws.FnExactKnownAt", spec := "fnExactKnownAt", unfollowed := true, recurses := true, plainKeys := false, apart := false, narrowed := true }
def FnExactKnownAtUptoSaid : Prop := fnExactKnownAtUptoRow.holds Try.pinned (OpenSpec.upto fnExactKnownAtSpec)

end Rows
end Go.Proofs.Ythelpbghcmpcgaa

/-
  No cell of these rows narrows 'for every input' (looked for: loops, veiled, ifaces, maps, wideKeys, modest, calm, conditions, laid).
  DERIVED. THE GIVEN ROWS OF THIS SEAT. 4 by the template 'for every input the law returns true; each argument reads behind the call as it read before'; 0 by the template 'total and deterministic' (their statements: YteogabkfkfaejabTotals.lean).
  GIVEN WITH THE SEED: the statements are not yours to turn. If you find one false, say at which input.
  Laid BY PROGRAM, IN A SANDBOX (cutbox-rows.mjs): the forced cells as the released guide's own fill.sh prints them over the translation 81e3baa817a73a33… (all of the seat's roots in one cut). By AI agents, Wed Nov 11 2026. No macro, syntax, notation, axiom, sorry.
-/
import Derived.Test.YteogabkfkfaejabChecked
import GoSem.Claim
import GoSem.ClaimJoined
import GoSem.ClaimMapViews
import Derived.JoinedTies
import Derived.KernelRfl
namespace Go.Proofs.Yteogabkfkfaejab
/- THE CELL 'sum', in the pinned program and in every row, IS THE sha256 OF THE DUMP (.gsa) THAT YteogabkfkfaejabProg.lean LOADS. Nothing in Lean hashes anything: it is a label: what it is worth is what the hold of that sum in a sandbox is worth. -/
noncomputable def Try.pinned : Pinned := { name := "yteogabkfkfaejab", sum := "81e3baa817a73a33eab4aa8e2d1fd7cb1d9ca6f0b5153ca5c5b22acac5543f54", checked := Try.checked }
namespace Rows
def none {H : Type} : Left H := { results := [], args := [] }

/-- 'laws.FnExactIsRight': WHATEVER THE INPUT: true; the input reads as it did. -/
def fnExactIsRightSpec : ChangeSpec := { name := "fnExactIsRight", fn := fun _ => fun
  | [d] => { results := [.lit (.bool true)], args := [d] }
  | _ => none }
def fnExactIsRightRow : OpenClaim := { program := "yteogabkfkfaejab", sum := "81e3baa817a73a33eab4aa8e2d1fd7cb1d9ca6f0b5153ca5c5b22acac5543f54", func := "loop.example/g00350/laws.FnExactIsRight", spec := "fnExactIsRight", apart := false }
def FnExactIsRightSaid : Prop := fnExactIsRightRow.holds Try.pinned (OpenSpec.ofChange fnExactIsRightSpec)

/-- ITS FALSE NEIGHBOUR: 'it returns false'. Refute it at one input. -/
def fnExactIsRightWrong : ChangeSpec := { name := "fnExactIsRight", fn := fun _ => fun
  | [d] => { results := [.lit (.bool false)], args := [d] }
  | _ => none }
def FnExactIsRightWrongFalsely : Prop := fnExactIsRightRow.holds Try.pinned (OpenSpec.ofChange fnExactIsRightWrong)

/-- 'laws.FnExactDivSigned': WHATEVER THE INPUT: true; the input reads as it did. -/
def fnExactDivSignedSpec : ChangeSpec := { name := "fnExactDivSigned", fn := fun _ => fun
  | [d1, d2] => { results := [.lit (.bool true)], args := [d1, d2] }
  | _ => none }
def fnExactDivSignedRow : OpenClaim := { program := "yteogabkfkfaejab", sum := "81e3baa817a73a33eab4aa8e2d1fd7cb1d9ca6f0b5153ca5c5b22acac5543f54", func := "loop.example/g00350/laws.FnExactDivSigned", spec := "fnExactDivSigned", apart := false }
def FnExactDivSignedSaid : Prop := fnExactDivSignedRow.holds Try.pinned (OpenSpec.ofChange fnExactDivSignedSpec)

/-- ITS FALSE NEIGHBOUR: 'it returns false'. Refute it at one input. -/
def fnExactDivSignedWrong : ChangeSpec := { name := "fnExactDivSigned", fn := fun _ => fun
  | [d1, d2] => { results := [.lit (.bool false)], args := [d1, d2] }
  | _ => none }
def FnExactDivSignedWrongFalsely : Prop := fnExactDivSignedRow.holds Try.pinned (OpenSpec.ofChange fnExactDivSignedWrong)

/-- 'laws.FnExactPlanMul': WHATEVER THE INPUT: true; the input reads as it did. -/
def fnExactPlanMulSpec : ChangeSpec := { name := "fnExactPlanMul", fn := fun _ => fun
  | [d] => { results := [.lit (.bool true)], args := [d] }
  | _ => none }
def fnExactPlanMulRow : OpenClaim := { program := "yteogabkfkfaejab", sum := "81e3baa817a73a33eab4aa8e2d1fd7cb1d9ca6f0b5153ca5c5b22acac5543f54", func := "loop.example/g00350/laws.FnExactPlanMul", spec := "fnExactPlanMul", apart := false }
def FnExactPlanMulSaid : Prop := fnExactPlanMulRow.holds Try.pinned (OpenSpec.ofChange fnExactPlanMulSpec)

/-- ITS FALSE NEIGHBOUR: 'it returns false'. Refute it at one input. -/
def fnExactPlanMulWrong : ChangeSpec := { name := "fnExactPlanMul", fn := fun _ => fun
  | [d] => { results := [.lit (.bool false)], args := [d] }
  | _ => none }
def FnExactPlanMulWrongFalsely : Prop := fnExactPlanMulRow.holds Try.pinned (OpenSpec.ofChange fnExactPlanMulWrong)

/-- 'laws.FnExactDoPlan': WHATEVER THE INPUT: true; the input reads as it did. -/
def fnExactDoPlanSpec : ChangeSpec := { name := "fnExactDoPlan", fn := fun _ => fun
  | [d1, d2] => { results := [.lit (.bool true)], args := [d1, d2] }
  | _ => none }
def fnExactDoPlanRow : OpenClaim := { program := "yteogabkfkfaejab", sum := "81e3baa817a73a33eab4aa8e2d1fd7cb1d9ca6f0b5153ca5c5b22acac5543f54", func := "loop.example/g00350/laws.FnExactDoPlan", spec := "fnExactDoPlan", apart := false }
def FnExactDoPlanSaid : Prop := fnExactDoPlanRow.holds Try.pinned (OpenSpec.ofChange fnExactDoPlanSpec)

/-- ITS FALSE NEIGHBOUR: 'it returns false'. Refute it at one input. -/
def fnExactDoPlanWrong : ChangeSpec := { name := "fnExactDoPlan", fn := fun _ => fun
  | [d1, d2] => { results := [.lit (.bool false)], args := [d1, d2] }
  | _ => none }
def FnExactDoPlanWrongFalsely : Prop := fnExactDoPlanRow.holds Try.pinned (OpenSpec.ofChange fnExactDoPlanWrong)

/- THE SECOND FORM. 'bulk': how many values and letters a reading holds, each counted each time it is reached (what is shared counts as often as it is met; a slice's spare places count too). A statement '..UptoSaid' is the law's where the arguments, and the package variables that the reading takes, are together of bulk at most 1048576: NARROWER than '..Said'. Prove '..Said' where nothing that the law and all that it calls make is longer than what came in: it says more and counts as full. Else prove '..UptoSaid'. A law counts once. -/
mutual
def uptoBulk {H : Type} : DataW H → Nat
  | .lit (.string bytes) => bytes.length + 1
  | .lit _ => 1
  | .nil => 1
  | .ptr d => uptoBulk d + 1
  | .slice elems spare => uptoBulkAll elems + uptoBulkAll spare + 1
  | .agg parts => uptoBulkAll parts + 1
  | .iface _ d => uptoBulk d + 1
  | .map entries => uptoBulkEntries entries + 1
  | .held _ => 1
def uptoBulkAll {H : Type} : List (DataW H) → Nat
  | [] => 0
  | d :: r => uptoBulk d + uptoBulkAll r
def uptoBulkEntries {H : Type} : List (Lit × DataW H) → Nat
  | [] => 0
  | x :: r => uptoBulkEntry x + uptoBulkEntries r
def uptoBulkEntry {H : Type} : Lit × DataW H → Nat
  | (.string bytes, d) => bytes.length + uptoBulk d + 1
  | (_, d) => uptoBulk d + 1
 end
def uptoSmall : (H : Type) → List (DataW H) → Bool := fun _ ds => decide (uptoBulkAll ds ≤ 1048576)
def OpenSpec.upto (s : _root_.Go.ChangeSpec) : _root_.Go.OpenSpec := { _root_.Go.OpenSpec.ofChange s with cond := some uptoSmall }

/-- 'laws.FnExactIsRight', WHERE WHAT IT READS IS OF BULK AT MOST 1048576: true; the input reads as it did. -/
def fnExactIsRightUptoRow : OpenClaim := { program := "yteogabkfkfaejab", sum := "81e3baa817a73a33eab4aa8e2d1fd7cb1d9ca6f0b5153ca5c5b22acac5543f54", func := "loop.example/g00350/laws.FnExactIsRight", spec := "fnExactIsRight", apart := false, narrowed := true }
def FnExactIsRightUptoSaid : Prop := fnExactIsRightUptoRow.holds Try.pinned (OpenSpec.upto fnExactIsRightSpec)

/-- 'laws.FnExactDivSigned', WHERE WHAT IT READS IS OF BULK AT MOST 1048576: true; the input reads as it did. -/
def fnExactDivSignedUptoRow : OpenClaim := { program := "yteogabkfkfaejab", sum := "81e3baa817a73a33eab4aa8e2d1fd7cb1d9ca6f0b5153ca5c5b22acac5543f54", func := "loop.example/g00350/laws.FnExactDivSigned", spec := "fnExactDivSigned", apart := false, narrowed := true }
def FnExactDivSignedUptoSaid : Prop := fnExactDivSignedUptoRow.holds Try.pinned (OpenSpec.upto fnExactDivSignedSpec)

/-- 'laws.FnExactPlanMul', WHERE WHAT IT READS IS OF BULK AT MOST 1048576: true; the input reads as it did. -/
def fnExactPlanMulUptoRow : OpenClaim := { program := "yteogabkfkfaejab", sum := "81e3baa817a73a33eab4aa8e2d1fd7cb1d9ca6f0b5153ca5c5b22acac5543f54", func := "loop.example/g00350/laws.FnExactPlanMul", spec := "fnExactPlanMul", apart := false, narrowed := true }
def FnExactPlanMulUptoSaid : Prop := fnExactPlanMulUptoRow.holds Try.pinned (OpenSpec.upto fnExactPlanMulSpec)

/-- 'laws.FnExactDoPlan', WHERE WHAT IT READS IS OF BULK AT MOST 1048576: true; the input reads as it did. -/
def fnExactDoPlanUptoRow : OpenClaim := { program := "yteogabkfkfaejab", sum := "81e3baa817a73a33eab4aa8e2d1fd7cb1d9ca6f0b5153ca5c5b22acac5543f54", func := "loop.example/g00350/laws.FnExactDoPlan", spec := "fnExactDoPlan", apart := false, narrowed := true }
def FnExactDoPlanUptoSaid : Prop := fnExactDoPlanUptoRow.holds Try.pinned (OpenSpec.upto fnExactDoPlanSpec)

end Rows
end Go.Proofs.Yteogabkfkfaejab

/-
  No cell of these rows narrows 'for every input' (looked for: loops, veiled, ifaces, maps, wideKeys, modest, calm, conditions, laid).
  DERIVED. THE GIVEN ROWS OF THIS SEAT. 6 by the template 'for every input the law returns true; each argument reads behind the call as it read before'; 0 by the template 'total and deterministic' (their statements: YteogabkfkfaejaaTotals.lean).
  GIVEN WITH THE SEED: the statements are not yours to turn. If you find one false, say at which input.
  Laid BY PROGRAM, IN A SANDBOX (cutbox-rows.mjs): the forced cells as the released guide's own fill.sh prints them over the translation a5ab2ffe89d3cb84… (all of the seat's roots in one cut). By AI agents, Wed Nov 11 2026. No macro, syntax, notation, axiom, sorry.
-/
import Derived.Test.YteogabkfkfaejaaChecked
import GoSem.Claim
import GoSem.ClaimJoined
import GoSem.ClaimMapViews
import Derived.JoinedTies
import Derived.KernelRfl
namespace Go.Proofs.Yteogabkfkfaejaa
/- THE CELL 'sum', in the pinned program and in every row, IS THE sha256 OF THE DUMP (.gsa) THAT YteogabkfkfaejaaProg.lean LOADS. Nothing in Lean hashes anything: it is a label: what it is worth is what the hold of that sum in a sandbox is worth. -/
noncomputable def Try.pinned : Pinned := { name := "yteogabkfkfaejaa", sum := "a5ab2ffe89d3cb84b3f994fa88f51ddebb7468e7db965286bcde11d4439d82d6", checked := Try.checked }
namespace Rows
def none {H : Type} : Left H := { results := [], args := [] }

/-- 'laws.FnMagic': WHATEVER THE INPUT: true; the input reads as it did. -/
def fnMagicSpec : ChangeSpec := { name := "fnMagic", fn := fun _ => fun
  | [d1, d2] => { results := [.lit (.bool true)], args := [d1, d2] }
  | _ => none }
def fnMagicRow : OpenClaim := { program := "yteogabkfkfaejaa", sum := "a5ab2ffe89d3cb84b3f994fa88f51ddebb7468e7db965286bcde11d4439d82d6", func := "loop.example/g00350/laws.FnMagic", spec := "fnMagic", apart := false }
def FnMagicSaid : Prop := fnMagicRow.holds Try.pinned (OpenSpec.ofChange fnMagicSpec)

/-- ITS FALSE NEIGHBOUR: 'it returns false'. Refute it at one input. -/
def fnMagicWrong : ChangeSpec := { name := "fnMagic", fn := fun _ => fun
  | [d1, d2] => { results := [.lit (.bool false)], args := [d1, d2] }
  | _ => none }
def FnMagicWrongFalsely : Prop := fnMagicRow.holds Try.pinned (OpenSpec.ofChange fnMagicWrong)

/-- 'laws.FnPlans': WHATEVER THE INPUT: true; the input reads as it did. -/
def fnPlansSpec : ChangeSpec := { name := "fnPlans", fn := fun _ => fun
  | [d1, d2] => { results := [.lit (.bool true)], args := [d1, d2] }
  | _ => none }
def fnPlansRow : OpenClaim := { program := "yteogabkfkfaejaa", sum := "a5ab2ffe89d3cb84b3f994fa88f51ddebb7468e7db965286bcde11d4439d82d6", func := "loop.example/g00350/laws.FnPlans", spec := "fnPlans", apart := false }
def FnPlansSaid : Prop := fnPlansRow.holds Try.pinned (OpenSpec.ofChange fnPlansSpec)

/-- ITS FALSE NEIGHBOUR: 'it returns false'. Refute it at one input. -/
def fnPlansWrong : ChangeSpec := { name := "fnPlans", fn := fun _ => fun
  | [d1, d2] => { results := [.lit (.bool false)], args := [d1, d2] }
  | _ => none }
def FnPlansWrongFalsely : Prop := fnPlansRow.holds Try.pinned (OpenSpec.ofChange fnPlansWrong)

/-- 'laws.FnExactMagicFor': WHATEVER THE INPUT: true; the input reads as it did. -/
def fnExactMagicForSpec : ChangeSpec := { name := "fnExactMagicFor", fn := fun _ => fun
  | [d] => { results := [.lit (.bool true)], args := [d] }
  | _ => none }
def fnExactMagicForRow : OpenClaim := { program := "yteogabkfkfaejaa", sum := "a5ab2ffe89d3cb84b3f994fa88f51ddebb7468e7db965286bcde11d4439d82d6", func := "loop.example/g00350/laws.FnExactMagicFor", spec := "fnExactMagicFor", apart := false }
def FnExactMagicForSaid : Prop := fnExactMagicForRow.holds Try.pinned (OpenSpec.ofChange fnExactMagicForSpec)

/-- ITS FALSE NEIGHBOUR: 'it returns false'. Refute it at one input. -/
def fnExactMagicForWrong : ChangeSpec := { name := "fnExactMagicFor", fn := fun _ => fun
  | [d] => { results := [.lit (.bool false)], args := [d] }
  | _ => none }
def FnExactMagicForWrongFalsely : Prop := fnExactMagicForRow.holds Try.pinned (OpenSpec.ofChange fnExactMagicForWrong)

/-- 'laws.FnExactDivBy': WHATEVER THE INPUT: true; the input reads as it did. -/
def fnExactDivBySpec : ChangeSpec := { name := "fnExactDivBy", fn := fun _ => fun
  | [d1, d2] => { results := [.lit (.bool true)], args := [d1, d2] }
  | _ => none }
def fnExactDivByRow : OpenClaim := { program := "yteogabkfkfaejaa", sum := "a5ab2ffe89d3cb84b3f994fa88f51ddebb7468e7db965286bcde11d4439d82d6", func := "loop.example/g00350/laws.FnExactDivBy", spec := "fnExactDivBy", apart := false }
def FnExactDivBySaid : Prop := fnExactDivByRow.holds Try.pinned (OpenSpec.ofChange fnExactDivBySpec)

/-- ITS FALSE NEIGHBOUR: 'it returns false'. Refute it at one input. -/
def fnExactDivByWrong : ChangeSpec := { name := "fnExactDivBy", fn := fun _ => fun
  | [d1, d2] => { results := [.lit (.bool false)], args := [d1, d2] }
  | _ => none }
def FnExactDivByWrongFalsely : Prop := fnExactDivByRow.holds Try.pinned (OpenSpec.ofChange fnExactDivByWrong)

/-- 'laws.FnExactModBy': WHATEVER THE INPUT: true; the input reads as it did. -/
def fnExactModBySpec : ChangeSpec := { name := "fnExactModBy", fn := fun _ => fun
  | [d1, d2] => { results := [.lit (.bool true)], args := [d1, d2] }
  | _ => none }
def fnExactModByRow : OpenClaim := { program := "yteogabkfkfaejaa", sum := "a5ab2ffe89d3cb84b3f994fa88f51ddebb7468e7db965286bcde11d4439d82d6", func := "loop.example/g00350/laws.FnExactModBy", spec := "fnExactModBy", apart := false }
def FnExactModBySaid : Prop := fnExactModByRow.holds Try.pinned (OpenSpec.ofChange fnExactModBySpec)

/-- ITS FALSE NEIGHBOUR: 'it returns false'. Refute it at one input. -/
def fnExactModByWrong : ChangeSpec := { name := "fnExactModBy", fn := fun _ => fun
  | [d1, d2] => { results := [.lit (.bool false)], args := [d1, d2] }
  | _ => none }
def FnExactModByWrongFalsely : Prop := fnExactModByRow.holds Try.pinned (OpenSpec.ofChange fnExactModByWrong)

/-- 'laws.FnExactGoodMagic': WHATEVER THE INPUT: true; the input reads as it did. -/
def fnExactGoodMagicSpec : ChangeSpec := { name := "fnExactGoodMagic", fn := fun _ => fun
  | [d] => { results := [.lit (.bool true)], args := [d] }
  | _ => none }
def fnExactGoodMagicRow : OpenClaim := { program := "yteogabkfkfaejaa", sum := "a5ab2ffe89d3cb84b3f994fa88f51ddebb7468e7db965286bcde11d4439d82d6", func := "loop.example/g00350/laws.FnExactGoodMagic", spec := "fnExactGoodMagic", apart := false }
def FnExactGoodMagicSaid : Prop := fnExactGoodMagicRow.holds Try.pinned (OpenSpec.ofChange fnExactGoodMagicSpec)

/-- ITS FALSE NEIGHBOUR: 'it returns false'. Refute it at one input. -/
def fnExactGoodMagicWrong : ChangeSpec := { name := "fnExactGoodMagic", fn := fun _ => fun
  | [d] => { results := [.lit (.bool false)], args := [d] }
  | _ => none }
def FnExactGoodMagicWrongFalsely : Prop := fnExactGoodMagicRow.holds Try.pinned (OpenSpec.ofChange fnExactGoodMagicWrong)

/- THE SECOND FORM. 'bulk': how many values and letters a reading holds, each counted each time it is reached (what is shared counts as often as it is met; a slice's spare places count too). A statement '..UptoSaid' is the law's where the arguments, and the package variables that the reading takes, are together of bulk at most 1048576: NARROWER than '..Said'. Prove '..Said' where nothing that the law and all that it calls make is longer than what came in: it says more and counts as full. Else prove '..UptoSaid'. A law counts once. -/
mutual
def uptoBulk {H : Type} : DataW H → Nat
  | .lit (.string bytes) => bytes.length + 1
  | .lit _ => 1
  | .nil => 1
  | .ptr d => uptoBulk d + 1
  | .slice elems spare => uptoBulkAll elems + uptoBulkAll spare + 1
  | .agg parts => uptoBulkAll parts + 1
  | .iface _ d => uptoBulk d + 1
  | .map entries => uptoBulkEntries entries + 1
  | .held _ => 1
def uptoBulkAll {H : Type} : List (DataW H) → Nat
  | [] => 0
  | d :: r => uptoBulk d + uptoBulkAll r
def uptoBulkEntries {H : Type} : List (Lit × DataW H) → Nat
  | [] => 0
  | x :: r => uptoBulkEntry x + uptoBulkEntries r
def uptoBulkEntry {H : Type} : Lit × DataW H → Nat
  | (.string bytes, d) => bytes.length + uptoBulk d + 1
  | (_, d) => uptoBulk d + 1
 end
def uptoSmall : (H : Type) → List (DataW H) → Bool := fun _ ds => decide (uptoBulkAll ds ≤ 1048576)
def OpenSpec.upto (s : _root_.Go.ChangeSpec) : _root_.Go.OpenSpec := { _root_.Go.OpenSpec.ofChange s with cond := some uptoSmall }

/-- 'laws.FnMagic', WHERE WHAT IT READS IS OF BULK AT MOST 1048576: true; the input reads as it did. -/
def fnMagicUptoRow : OpenClaim := { program := "yteogabkfkfaejaa", sum := "a5ab2ffe89d3cb84b3f994fa88f51ddebb7468e7db965286bcde11d4439d82d6", func := "loop.example/g00350/laws.FnMagic", spec := "fnMagic", apart := false, narrowed := true }
def FnMagicUptoSaid : Prop := fnMagicUptoRow.holds Try.pinned (OpenSpec.upto fnMagicSpec)

/-- 'laws.FnPlans', WHERE WHAT IT READS IS OF BULK AT MOST 1048576: true; the input reads as it did. -/
def fnPlansUptoRow : OpenClaim := { program := "yteogabkfkfaejaa", sum := "a5ab2ffe89d3cb84b3f994fa88f51ddebb7468e7db965286bcde11d4439d82d6", func := "loop.example/g00350/laws.FnPlans", spec := "fnPlans", apart := false, narrowed := true }
def FnPlansUptoSaid : Prop := fnPlansUptoRow.holds Try.pinned (OpenSpec.upto fnPlansSpec)

/-- 'laws.FnExactMagicFor', WHERE WHAT IT READS IS OF BULK AT MOST 1048576: true; the input reads as it did. -/
def fnExactMagicForUptoRow : OpenClaim := { program := "yteogabkfkfaejaa", sum := "a5ab2ffe89d3cb84b3f994fa88f51ddebb7468e7db965286bcde11d4439d82d6", func := "loop.example/g00350/laws.FnExactMagicFor", spec := "fnExactMagicFor", apart := false, narrowed := true }
def FnExactMagicForUptoSaid : Prop := fnExactMagicForUptoRow.holds Try.pinned (OpenSpec.upto fnExactMagicForSpec)

/-- 'laws.FnExactDivBy', WHERE WHAT IT READS IS OF BULK AT MOST 1048576: true; the input reads as it did. -/
def fnExactDivByUptoRow : OpenClaim := { program := "yteogabkfkfaejaa", sum := "a5ab2ffe89d3cb84b3f994fa88f51ddebb7468e7db965286bcde11d4439d82d6", func := "loop.example/g00350/laws.FnExactDivBy", spec := "fnExactDivBy", apart := false, narrowed := true }
def FnExactDivByUptoSaid : Prop := fnExactDivByUptoRow.holds Try.pinned (OpenSpec.upto fnExactDivBySpec)

/-- 'laws.FnExactModBy', WHERE WHAT IT READS IS OF BULK AT MOST 1048576: true; the input reads as it did. -/
def fnExactModByUptoRow : OpenClaim := { program := "yteogabkfkfaejaa", sum := "a5ab2ffe89d3cb84b3f994fa88f51ddebb7468e7db965286bcde11d4439d82d6", func := "loop.example/g00350/laws.FnExactModBy", spec := "fnExactModBy", apart := false, narrowed := true }
def FnExactModByUptoSaid : Prop := fnExactModByUptoRow.holds Try.pinned (OpenSpec.upto fnExactModBySpec)

/-- 'laws.FnExactGoodMagic', WHERE WHAT IT READS IS OF BULK AT MOST 1048576: true; the input reads as it did. -/
def fnExactGoodMagicUptoRow : OpenClaim := { program := "yteogabkfkfaejaa", sum := "a5ab2ffe89d3cb84b3f994fa88f51ddebb7468e7db965286bcde11d4439d82d6", func := "loop.example/g00350/laws.FnExactGoodMagic", spec := "fnExactGoodMagic", apart := false, narrowed := true }
def FnExactGoodMagicUptoSaid : Prop := fnExactGoodMagicUptoRow.holds Try.pinned (OpenSpec.upto fnExactGoodMagicSpec)

end Rows
end Go.Proofs.Yteogabkfkfaejaa

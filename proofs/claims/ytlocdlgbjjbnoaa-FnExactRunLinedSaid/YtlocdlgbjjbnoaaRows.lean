/-
  No cell of these rows narrows 'for every input' (looked for: loops, veiled, ifaces, maps, wideKeys, modest, calm, conditions, laid).
  DERIVED. THE GIVEN ROWS OF THIS SEAT. 3 by the template 'for every input the law returns true; each argument reads behind the call as it read before'; 0 by the template 'total and deterministic' (their statements: YtlocdlgbjjbnoaaTotals.lean).
  GIVEN WITH THE SEED: the statements are not yours to turn. If you find one false, say at which input.
  Laid BY PROGRAM, IN A SANDBOX (cutbox-rows.mjs): the forced cells as the released guide's own fill.sh prints them over the translation e9bec04bbe837483… (all of the seat's roots in one cut). By AI agents, Wed Nov 11 2026. No macro, syntax, notation, axiom, sorry.
-/
import Derived.Test.YtlocdlgbjjbnoaaChecked
import GoSem.Claim
import GoSem.ClaimJoined
import GoSem.ClaimMapViews
import Derived.JoinedTies
import Derived.KernelRfl
namespace Go.Proofs.Ytlocdlgbjjbnoaa
/- THE CELL 'sum', in the pinned program and in every row, IS THE sha256 OF THE DUMP (.gsa) THAT YtlocdlgbjjbnoaaProg.lean LOADS. Nothing in Lean hashes anything: it is a label: what it is worth is what the hold of that sum in a sandbox is worth. -/
noncomputable def Try.pinned : Pinned := { name := "ytlocdlgbjjbnoaa", sum := "e9bec04bbe837483f96cfae9e49a6d88bfd46ada13eebd75d11d5a161128be30", checked := Try.checked }
namespace Rows
def none {H : Type} : Left H := { results := [], args := [] }

/-- 'laws.FnExactEvalTree': WHATEVER THE INPUT: true; the input reads as it did. -/
def fnExactEvalTreeSpec : ChangeSpec := { name := "fnExactEvalTree", fn := fun _ => fun
  | [d] => { results := [.lit (.bool true)], args := [d] }
  | _ => none }
def fnExactEvalTreeRow : OpenClaim := { program := "ytlocdlgbjjbnoaa", sum := "e9bec04bbe837483f96cfae9e49a6d88bfd46ada13eebd75d11d5a161128be30", func := "loop.example/g00350/laws.FnExactEvalTree", spec := "fnExactEvalTree", unfollowed := true, recurses := true, apart := false }
def FnExactEvalTreeSaid : Prop := fnExactEvalTreeRow.holds Try.pinned (OpenSpec.ofChange fnExactEvalTreeSpec)

/-- ITS FALSE NEIGHBOUR: 'it returns false'. Refute it at one input. -/
def fnExactEvalTreeWrong : ChangeSpec := { name := "fnExactEvalTree", fn := fun _ => fun
  | [d] => { results := [.lit (.bool false)], args := [d] }
  | _ => none }
def FnExactEvalTreeWrongFalsely : Prop := fnExactEvalTreeRow.holds Try.pinned (OpenSpec.ofChange fnExactEvalTreeWrong)

/-- 'laws.FnExactLineTree': WHATEVER THE INPUT: true; the input reads as it did. -/
def fnExactLineTreeSpec : ChangeSpec := { name := "fnExactLineTree", fn := fun _ => fun
  | [d] => { results := [.lit (.bool true)], args := [d] }
  | _ => none }
def fnExactLineTreeRow : OpenClaim := { program := "ytlocdlgbjjbnoaa", sum := "e9bec04bbe837483f96cfae9e49a6d88bfd46ada13eebd75d11d5a161128be30", func := "loop.example/g00350/laws.FnExactLineTree", spec := "fnExactLineTree", recurses := true, apart := false }
def FnExactLineTreeSaid : Prop := fnExactLineTreeRow.holds Try.pinned (OpenSpec.ofChange fnExactLineTreeSpec)

/-- ITS FALSE NEIGHBOUR: 'it returns false'. Refute it at one input. -/
def fnExactLineTreeWrong : ChangeSpec := { name := "fnExactLineTree", fn := fun _ => fun
  | [d] => { results := [.lit (.bool false)], args := [d] }
  | _ => none }
def FnExactLineTreeWrongFalsely : Prop := fnExactLineTreeRow.holds Try.pinned (OpenSpec.ofChange fnExactLineTreeWrong)

/-- 'laws.FnExactRunLined': WHATEVER THE INPUT: true; the input reads as it did. -/
def fnExactRunLinedSpec : ChangeSpec := { name := "fnExactRunLined", fn := fun _ => fun
  | [d1, d2] => { results := [.lit (.bool true)], args := [d1, d2] }
  | _ => none }
def fnExactRunLinedRow : OpenClaim := { program := "ytlocdlgbjjbnoaa", sum := "e9bec04bbe837483f96cfae9e49a6d88bfd46ada13eebd75d11d5a161128be30", func := "loop.example/g00350/laws.FnExactRunLined", spec := "fnExactRunLined", apart := false }
def FnExactRunLinedSaid : Prop := fnExactRunLinedRow.holds Try.pinned (OpenSpec.ofChange fnExactRunLinedSpec)

/-- ITS FALSE NEIGHBOUR: 'it returns false'. Refute it at one input. -/
def fnExactRunLinedWrong : ChangeSpec := { name := "fnExactRunLined", fn := fun _ => fun
  | [d1, d2] => { results := [.lit (.bool false)], args := [d1, d2] }
  | _ => none }
def FnExactRunLinedWrongFalsely : Prop := fnExactRunLinedRow.holds Try.pinned (OpenSpec.ofChange fnExactRunLinedWrong)

/- THE SECOND FORM. 'bulk': how many values and letters a reading holds, each counted each time it is reached (what is shared counts as often as it is met; a slice's spare places count too). A statement '..UptoSaid' is the law's where the arguments, and the package variables that the reading takes, are together of bulk at most 1048576: NARROWER than '..Said'. Prove '..Said' where nothing that the law and all that it calls make is longer than what came in: it says more and counts as full. Else prove '..UptoSaid'. A law counts once. -/
mutual
def uptoBulk {H : Type} : DataW H → Nat
  | .lit (.string bytes) => bytes.length + 1
  | .lit _ => 1
  | .nil => 1
  | .ptr d => uptoBulk d + 1
  | .slice elems spare => uptoBulkAll elems + uptoBulkAll spare + 1
  | .agg parts => uptoBulkAll parts + 1
  | .iface _ d => uptoBulk d + 1
  | .map entries => uptoBulkEntries entries + 1
  | .held _ => 1
def uptoBulkAll {H : Type} : List (DataW H) → Nat
  | [] => 0
  | d :: r => uptoBulk d + uptoBulkAll r
def uptoBulkEntries {H : Type} : List (Lit × DataW H) → Nat
  | [] => 0
  | x :: r => uptoBulkEntry x + uptoBulkEntries r
def uptoBulkEntry {H : Type} : Lit × DataW H → Nat
  | (.string bytes, d) => bytes.length + uptoBulk d + 1
  | (_, d) => uptoBulk d + 1
 end
def uptoSmall : (H : Type) → List (DataW H) → Bool := fun _ ds => decide (uptoBulkAll ds ≤ 1048576)
def OpenSpec.upto (s : _root_.Go.ChangeSpec) : _root_.Go.OpenSpec := { _root_.Go.OpenSpec.ofChange s with cond := some uptoSmall }

/-- 'laws.FnExactEvalTree', WHERE WHAT IT READS IS OF BULK AT MOST 1048576: true; the input reads as it did. -/
def fnExactEvalTreeUptoRow : OpenClaim := { program := "ytlocdlgbjjbnoaa", sum := "e9bec04bbe837483f96cfae9e49a6d88bfd46ada13eebd75d11d5a161128be30", func := "loop.example/g00350/laws.FnExactEvalTree", spec := "fnExactEvalTree", unfollowed := true, recurses := true, apart := false, narrowed := true }
def FnExactEvalTreeUptoSaid : Prop := fnExactEvalTreeUptoRow.holds Try.pinned (OpenSpec.upto fnExactEvalTreeSpec)

/-- 'laws.FnExactLineTree', WHERE WHAT IT READS IS OF BULK AT MOST 1048576: true; the input reads as it did. -/
def fnExactLineTreeUptoRow : OpenClaim := { program := "ytlocdlgbjjbnoaa", sum := "e9bec04bbe837483f96cfae9e49a6d88bfd46ada13eebd75d11d5a161128be30", func := "loop.example/g00350/laws.FnExactLineTree", spec := "fnExactLineTree", recurses := true, apart := false, narrowed := true }
def FnExactLineTreeUptoSaid : Prop := fnExactLineTreeUptoRow.holds Try.pinned (OpenSpec.upto fnExactLineTreeSpec)

/-- 'laws.FnExactRunLined', WHERE WHAT IT READS IS OF BULK AT MOST 1048576: true; the input reads as it did. -/
def fnExactRunLinedUptoRow : OpenClaim := { program := "ytlocdlgbjjbnoaa", sum := "e9bec04bbe837483f96cfae9e49a6d88bfd46ada13eebd75d11d5a161128be30", func := "loop.example/g00350/laws.FnExactRunLined", spec := "fnExactRunLined", apart := false, narrowed := true }
def FnExactRunLinedUptoSaid : Prop := fnExactRunLinedUptoRow.holds Try.pinned (OpenSpec.upto fnExactRunLinedSpec)

end Rows
end Go.Proofs.Ytlocdlgbjjbnoaa

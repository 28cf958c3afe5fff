/-
  No cell of these rows narrows 'for every input' (looked for: loops, veiled, ifaces, maps, wideKeys, modest, calm, conditions, laid).
  DERIVED. THE GIVEN ROWS OF THIS SEAT. 6 by the template 'for every input the law returns true; each argument reads behind the call as it read before'; 0 by the template 'total and deterministic' (their statements: YthafoodchbpgdaaTotals.lean).
  GIVEN WITH THE SEED: the statements are not yours to turn. If you find one false, say at which input.
  Laid BY PROGRAM, IN A SANDBOX (cutbox-rows.mjs): the forced cells as the released guide's own fill.sh prints them over the translation 6a3da2905dac0aab… (all of the seat's roots in one cut). By AI agents, Wed Nov 11 2026. No macro, syntax, notation, axiom, sorry.
-/
import Derived.Test.YthafoodchbpgdaaChecked
import GoSem.Claim
import GoSem.ClaimJoined
import GoSem.ClaimMapViews
import Derived.JoinedTies
import Derived.KernelRfl
namespace Go.Proofs.Ythafoodchbpgdaa
/- THE CELL 'sum', in the pinned program and in every row, IS THE sha256 OF THE DUMP (.gsa) THAT YthafoodchbpgdaaProg.lean LOADS. Nothing in Lean hashes anything: it is a label: what it is worth is what the hold of that sum in a sandbox is worth. -/
noncomputable def Try.pinned : Pinned := { name := "ythafoodchbpgdaa", sum := "6a3da2905dac0aab99ac59872356a5ecc715dfddbed0da05e5fcb4e46b726c8d", checked := Try.checked }
namespace Rows
def none {H : Type} : Left H := { results := [], args := [] }

/-- 'laws.FnExactTagSmall': WHATEVER THE INPUT: true; the input reads as it did. -/
def fnExactTagSmallSpec : ChangeSpec := { name := "fnExactTagSmall", fn := fun _ => fun
  | [d] => { results := [.lit (.bool true)], args := [d] }
  | _ => none }
def fnExactTagSmallRow : OpenClaim := { program := "ythafoodchbpgdaa", sum := "6a3da2905dac0aab99ac59872356a5ecc715dfddbed0da05e5fcb4e46b726c8d", func := "loop.example/g00350/laws.FnExactTagSmall", spec := "fnExactTagSmall", apart := false }
def FnExactTagSmallSaid : Prop := fnExactTagSmallRow.holds Try.pinned (OpenSpec.ofChange fnExactTagSmallSpec)

/-- ITS FALSE NEIGHBOUR: 'it returns false'. Refute it at one input. -/
def fnExactTagSmallWrong : ChangeSpec := { name := "fnExactTagSmall", fn := fun _ => fun
  | [d] => { results := [.lit (.bool false)], args := [d] }
  | _ => none }
def FnExactTagSmallWrongFalsely : Prop := fnExactTagSmallRow.holds Try.pinned (OpenSpec.ofChange fnExactTagSmallWrong)

/-- 'laws.FnExactUntagSmall': WHATEVER THE INPUT: true; the input reads as it did. -/
def fnExactUntagSmallSpec : ChangeSpec := { name := "fnExactUntagSmall", fn := fun _ => fun
  | [d] => { results := [.lit (.bool true)], args := [d] }
  | _ => none }
def fnExactUntagSmallRow : OpenClaim := { program := "ythafoodchbpgdaa", sum := "6a3da2905dac0aab99ac59872356a5ecc715dfddbed0da05e5fcb4e46b726c8d", func := "loop.example/g00350/laws.FnExactUntagSmall", spec := "fnExactUntagSmall", apart := false }
def FnExactUntagSmallSaid : Prop := fnExactUntagSmallRow.holds Try.pinned (OpenSpec.ofChange fnExactUntagSmallSpec)

/-- ITS FALSE NEIGHBOUR: 'it returns false'. Refute it at one input. -/
def fnExactUntagSmallWrong : ChangeSpec := { name := "fnExactUntagSmall", fn := fun _ => fun
  | [d] => { results := [.lit (.bool false)], args := [d] }
  | _ => none }
def FnExactUntagSmallWrongFalsely : Prop := fnExactUntagSmallRow.holds Try.pinned (OpenSpec.ofChange fnExactUntagSmallWrong)

/-- 'laws.FnExactTagAddr': WHATEVER THE INPUT: true; the input reads as it did. -/
def fnExactTagAddrSpec : ChangeSpec := { name := "fnExactTagAddr", fn := fun _ => fun
  | [d] => { results := [.lit (.bool true)], args := [d] }
  | _ => none }
def fnExactTagAddrRow : OpenClaim := { program := "ythafoodchbpgdaa", sum := "6a3da2905dac0aab99ac59872356a5ecc715dfddbed0da05e5fcb4e46b726c8d", func := "loop.example/g00350/laws.FnExactTagAddr", spec := "fnExactTagAddr", apart := false }
def FnExactTagAddrSaid : Prop := fnExactTagAddrRow.holds Try.pinned (OpenSpec.ofChange fnExactTagAddrSpec)

/-- ITS FALSE NEIGHBOUR: 'it returns false'. Refute it at one input. -/
def fnExactTagAddrWrong : ChangeSpec := { name := "fnExactTagAddr", fn := fun _ => fun
  | [d] => { results := [.lit (.bool false)], args := [d] }
  | _ => none }
def FnExactTagAddrWrongFalsely : Prop := fnExactTagAddrRow.holds Try.pinned (OpenSpec.ofChange fnExactTagAddrWrong)

/-- 'laws.FnExactUntagAddr': WHATEVER THE INPUT: true; the input reads as it did. -/
def fnExactUntagAddrSpec : ChangeSpec := { name := "fnExactUntagAddr", fn := fun _ => fun
  | [d] => { results := [.lit (.bool true)], args := [d] }
  | _ => none }
def fnExactUntagAddrRow : OpenClaim := { program := "ythafoodchbpgdaa", sum := "6a3da2905dac0aab99ac59872356a5ecc715dfddbed0da05e5fcb4e46b726c8d", func := "loop.example/g00350/laws.FnExactUntagAddr", spec := "fnExactUntagAddr", apart := false }
def FnExactUntagAddrSaid : Prop := fnExactUntagAddrRow.holds Try.pinned (OpenSpec.ofChange fnExactUntagAddrSpec)

/-- ITS FALSE NEIGHBOUR: 'it returns false'. Refute it at one input. -/
def fnExactUntagAddrWrong : ChangeSpec := { name := "fnExactUntagAddr", fn := fun _ => fun
  | [d] => { results := [.lit (.bool false)], args := [d] }
  | _ => none }
def FnExactUntagAddrWrongFalsely : Prop := fnExactUntagAddrRow.holds Try.pinned (OpenSpec.ofChange fnExactUntagAddrWrong)

/-- 'laws.FnExactIsSmall': WHATEVER THE INPUT: true; the input reads as it did. -/
def fnExactIsSmallSpec : ChangeSpec := { name := "fnExactIsSmall", fn := fun _ => fun
  | [d] => { results := [.lit (.bool true)], args := [d] }
  | _ => none }
def fnExactIsSmallRow : OpenClaim := { program := "ythafoodchbpgdaa", sum := "6a3da2905dac0aab99ac59872356a5ecc715dfddbed0da05e5fcb4e46b726c8d", func := "loop.example/g00350/laws.FnExactIsSmall", spec := "fnExactIsSmall", apart := false }
def FnExactIsSmallSaid : Prop := fnExactIsSmallRow.holds Try.pinned (OpenSpec.ofChange fnExactIsSmallSpec)

/-- ITS FALSE NEIGHBOUR: 'it returns false'. Refute it at one input. -/
def fnExactIsSmallWrong : ChangeSpec := { name := "fnExactIsSmall", fn := fun _ => fun
  | [d] => { results := [.lit (.bool false)], args := [d] }
  | _ => none }
def FnExactIsSmallWrongFalsely : Prop := fnExactIsSmallRow.holds Try.pinned (OpenSpec.ofChange fnExactIsSmallWrong)

/-- 'laws.FnExactAddTagged': WHATEVER THE INPUT: true; the input reads as it did. -/
def fnExactAddTaggedSpec : ChangeSpec := { name := "fnExactAddTagged", fn := fun _ => fun
  | [d1, d2] => { results := [.lit (.bool true)], args := [d1, d2] }
  | _ => none }
def fnExactAddTaggedRow : OpenClaim := { program := "ythafoodchbpgdaa", sum := "6a3da2905dac0aab99ac59872356a5ecc715dfddbed0da05e5fcb4e46b726c8d", func := "loop.example/g00350/laws.FnExactAddTagged", spec := "fnExactAddTagged", apart := false }
def FnExactAddTaggedSaid : Prop := fnExactAddTaggedRow.holds Try.pinned (OpenSpec.ofChange fnExactAddTaggedSpec)

/-- ITS FALSE NEIGHBOUR: 'it returns false'. Refute it at one input. -/
def fnExactAddTaggedWrong : ChangeSpec := { name := "fnExactAddTagged", fn := fun _ => fun
  | [d1, d2] => { results := [.lit (.bool false)], args := [d1, d2] }
  | _ => none }
def FnExactAddTaggedWrongFalsely : Prop := fnExactAddTaggedRow.holds Try.pinned (OpenSpec.ofChange fnExactAddTaggedWrong)

/- THE SECOND FORM. 'bulk': how many values and letters a reading holds, each counted each time it is reached (what is shared counts as often as it is met; a slice's spare places count too). A statement '..UptoSaid' is the law's where the arguments, and the package variables that the reading takes, are together of bulk at most 1048576: NARROWER than '..Said'. Prove '..Said' where nothing that the law and all that it calls make is longer than what came in: it says more and counts as full. Else prove '..UptoSaid'. A law counts once. -/
mutual
def uptoBulk {H : Type} : DataW H → Nat
  | .lit (.string bytes) => bytes.length + 1
  | .lit _ => 1
  | .nil => 1
  | .ptr d => uptoBulk d + 1
  | .slice elems spare => uptoBulkAll elems + uptoBulkAll spare + 1
  | .agg parts => uptoBulkAll parts + 1
  | .iface _ d => uptoBulk d + 1
  | .map entries => uptoBulkEntries entries + 1
  | .held _ => 1
def uptoBulkAll {H : Type} : List (DataW H) → Nat
  | [] => 0
  | d :: r => uptoBulk d + uptoBulkAll r
def uptoBulkEntries {H : Type} : List (Lit × DataW H) → Nat
  | [] => 0
  | x :: r => uptoBulkEntry x + uptoBulkEntries r
def uptoBulkEntry {H : Type} : Lit × DataW H → Nat
  | (.string bytes, d) => bytes.length + uptoBulk d + 1
  | (_, d) => uptoBulk d + 1
 end
def uptoSmall : (H : Type) → List (DataW H) → Bool := fun _ ds => decide (uptoBulkAll ds ≤ 1048576)
def OpenSpec.upto (s : _root_.Go.ChangeSpec) : _root_.Go.OpenSpec := { _root_.Go.OpenSpec.ofChange s with cond := some uptoSmall }

/-- 'laws.FnExactTagSmall', WHERE WHAT IT READS IS OF BULK AT MOST 1048576: true; the input reads as it did. -/
def fnExactTagSmallUptoRow : OpenClaim := { program := "ythafoodchbpgdaa", sum := "6a3da2905dac0aab99ac59872356a5ecc715dfddbed0da05e5fcb4e46b726c8d", func := "loop.example/g00350/laws.FnExactTagSmall", spec := "fnExactTagSmall", apart := false, narrowed := true }
def FnExactTagSmallUptoSaid : Prop := fnExactTagSmallUptoRow.holds Try.pinned (OpenSpec.upto fnExactTagSmallSpec)

/-- 'laws.FnExactUntagSmall', WHERE WHAT IT READS IS OF BULK AT MOST 1048576: true; the input reads as it did. -/
def fnExactUntagSmallUptoRow : OpenClaim := { program := "ythafoodchbpgdaa", sum := "6a3da2905dac0aab99ac59872356a5ecc715dfddbed0da05e5fcb4e46b726c8d", func := "loop.example/g00350/laws.FnExactUntagSmall", spec := "fnExactUntagSmall", apart := false, narrowed := true }
def FnExactUntagSmallUptoSaid : Prop := fnExactUntagSmallUptoRow.holds Try.pinned (OpenSpec.upto fnExactUntagSmallSpec)

/-- 'laws.FnExactTagAddr', WHERE WHAT IT READS IS OF BULK AT MOST 1048576: true; the input reads as it did. -/
def fnExactTagAddrUptoRow : OpenClaim := { program := "ythafoodchbpgdaa", sum := "6a3da2905dac0aab99ac59872356a5ecc715dfddbed0da05e5fcb4e46b726c8d", func := "loop.example/g00350/laws.FnExactTagAddr", spec := "fnExactTagAddr", apart := false, narrowed := true }
def FnExactTagAddrUptoSaid : Prop := fnExactTagAddrUptoRow.holds Try.pinned (OpenSpec.upto fnExactTagAddrSpec)

/-- 'laws.FnExactUntagAddr', WHERE WHAT IT READS IS OF BULK AT MOST 1048576: true; the input reads as it did. -/
def fnExactUntagAddrUptoRow : OpenClaim := { program := "ythafoodchbpgdaa", sum := "6a3da2905dac0aab99ac59872356a5ecc715dfddbed0da05e5fcb4e46b726c8d", func := "loop.example/g00350/laws.FnExactUntagAddr", spec := "fnExactUntagAddr", apart := false, narrowed := true }
def FnExactUntagAddrUptoSaid : Prop := fnExactUntagAddrUptoRow.holds Try.pinned (OpenSpec.upto fnExactUntagAddrSpec)

/-- 'laws.FnExactIsSmall', WHERE WHAT IT READS IS OF BULK AT MOST 1048576: true; the input reads as it did. -/
def fnExactIsSmallUptoRow : OpenClaim := { program := "ythafoodchbpgdaa", sum := "6a3da2905dac0aab99ac59872356a5ecc715dfddbed0da05e5fcb4e46b726c8d", func := "loop.example/g00350/laws.FnExactIsSmall", spec := "fnExactIsSmall", apart := false, narrowed := true }
def FnExactIsSmallUptoSaid : Prop := fnExactIsSmallUptoRow.holds Try.pinned (OpenSpec.upto fnExactIsSmallSpec)

/-- 'laws.FnExactAddTagged', WHERE WHAT IT READS IS OF BULK AT MOST 1048576: true; the input reads as it did. -/
def fnExactAddTaggedUptoRow : OpenClaim := { program := "ythafoodchbpgdaa", sum := "6a3da2905dac0aab99ac59872356a5ecc715dfddbed0da05e5fcb4e46b726c8d", func := "loop.example/g00350/laws.FnExactAddTagged", spec := "fnExactAddTagged", apart := false, narrowed := true }
def FnExactAddTaggedUptoSaid : Prop := fnExactAddTaggedUptoRow.holds Try.pinned (OpenSpec.upto fnExactAddTaggedSpec)

end Rows
end Go.Proofs.Ythafoodchbpgdaa

/-
  No cell of these rows narrows 'for every input' (looked for: loops, veiled, ifaces, maps, wideKeys, modest, calm, conditions, laid).
  DERIVED. THE GIVEN ROWS OF THIS SEAT. 4 by the template 'for every input the law returns true; each argument reads behind the call as it read before'; 0 by the template 'total and deterministic' (their statements: YtbjfhcbgghpdaaaTotals.lean).
  GIVEN WITH THE SEED: the statements are not yours to turn. If you find one false, say at which input.
  Laid BY PROGRAM, IN A SANDBOX (cutbox-rows.mjs): the forced cells as the released guide's own fill.sh prints them over the translation 0b36355f5156a8fc… (all of the seat's roots in one cut). By AI agents, Wed Nov 11 2026. No macro, syntax, notation, axiom, sorry.
-/
import Derived.Test.YtbjfhcbgghpdaaaChecked
import GoSem.Claim
import GoSem.ClaimJoined
import GoSem.ClaimMapViews
import Derived.JoinedTies
import Derived.KernelRfl
namespace Go.Proofs.Ytbjfhcbgghpdaaa
/- THE CELL 'sum', in the pinned program and in every row, IS THE sha256 OF THE DUMP (.gsa) THAT YtbjfhcbgghpdaaaProg.lean LOADS. Nothing in Lean hashes anything: it is a label: what it is worth is what the hold of that sum in a sandbox is worth. -/
noncomputable def Try.pinned : Pinned := { name := "ytbjfhcbgghpdaaa", sum := "0b36355f5156a8fcbedc88003ac8572f62d03eb1d6d04d023b8cf60bc18e2320", checked := Try.checked }
namespace Rows
def none {H : Type} : Left H := { results := [], args := [] }

/-- 'laws.FnExactGoodTree2': WHATEVER THE INPUT: true; the input reads as it did. -/
def fnExactGoodTree2Spec : ChangeSpec := { name := "fnExactGoodTree2", fn := fun _ => fun
  | [d] => { results := [.lit (.bool true)], args := [d] }
  | _ => none }
def fnExactGoodTree2Row : OpenClaim := { program := "ytbjfhcbgghpdaaa", sum := "0b36355f5156a8fcbedc88003ac8572f62d03eb1d6d04d023b8cf60bc18e2320", func := "loop.example/g00350/laws.FnExactGoodTree2", spec := "fnExactGoodTree2", recurses := true, apart := false }
def FnExactGoodTree2Said : Prop := fnExactGoodTree2Row.holds Try.pinned (OpenSpec.ofChange fnExactGoodTree2Spec)

/-- ITS FALSE NEIGHBOUR: 'it returns false'. Refute it at one input. -/
def fnExactGoodTree2Wrong : ChangeSpec := { name := "fnExactGoodTree2", fn := fun _ => fun
  | [d] => { results := [.lit (.bool false)], args := [d] }
  | _ => none }
def FnExactGoodTree2WrongFalsely : Prop := fnExactGoodTree2Row.holds Try.pinned (OpenSpec.ofChange fnExactGoodTree2Wrong)

/-- 'laws.FnExactGoodLined': WHATEVER THE INPUT: true; the input reads as it did. -/
def fnExactGoodLinedSpec : ChangeSpec := { name := "fnExactGoodLined", fn := fun _ => fun
  | [d] => { results := [.lit (.bool true)], args := [d] }
  | _ => none }
def fnExactGoodLinedRow : OpenClaim := { program := "ytbjfhcbgghpdaaa", sum := "0b36355f5156a8fcbedc88003ac8572f62d03eb1d6d04d023b8cf60bc18e2320", func := "loop.example/g00350/laws.FnExactGoodLined", spec := "fnExactGoodLined", apart := false }
def FnExactGoodLinedSaid : Prop := fnExactGoodLinedRow.holds Try.pinned (OpenSpec.ofChange fnExactGoodLinedSpec)

/-- ITS FALSE NEIGHBOUR: 'it returns false'. Refute it at one input. -/
def fnExactGoodLinedWrong : ChangeSpec := { name := "fnExactGoodLined", fn := fun _ => fun
  | [d] => { results := [.lit (.bool false)], args := [d] }
  | _ => none }
def FnExactGoodLinedWrongFalsely : Prop := fnExactGoodLinedRow.holds Try.pinned (OpenSpec.ofChange fnExactGoodLinedWrong)

/-- 'laws.FnExactGuardAt': WHATEVER THE INPUT: true; the input reads as it did. -/
def fnExactGuardAtSpec : ChangeSpec := { name := "fnExactGuardAt", fn := fun _ => fun
  | [d1, d2, d3] => { results := [.lit (.bool true)], args := [d1, d2, d3] }
  | _ => none }
def fnExactGuardAtRow : OpenClaim := { program := "ytbjfhcbgghpdaaa", sum := "0b36355f5156a8fcbedc88003ac8572f62d03eb1d6d04d023b8cf60bc18e2320", func := "loop.example/g00350/laws.FnExactGuardAt", spec := "fnExactGuardAt", apart := false }
def FnExactGuardAtSaid : Prop := fnExactGuardAtRow.holds Try.pinned (OpenSpec.ofChange fnExactGuardAtSpec)

/-- ITS FALSE NEIGHBOUR: 'it returns false'. Refute it at one input. -/
def fnExactGuardAtWrong : ChangeSpec := { name := "fnExactGuardAt", fn := fun _ => fun
  | [d1, d2, d3] => { results := [.lit (.bool false)], args := [d1, d2, d3] }
  | _ => none }
def FnExactGuardAtWrongFalsely : Prop := fnExactGuardAtRow.holds Try.pinned (OpenSpec.ofChange fnExactGuardAtWrong)

/-- 'laws.FnExactMayRaise': WHATEVER THE INPUT: true; the input reads as it did. -/
def fnExactMayRaiseSpec : ChangeSpec := { name := "fnExactMayRaise", fn := fun _ => fun
  | [d] => { results := [.lit (.bool true)], args := [d] }
  | _ => none }
def fnExactMayRaiseRow : OpenClaim := { program := "ytbjfhcbgghpdaaa", sum := "0b36355f5156a8fcbedc88003ac8572f62d03eb1d6d04d023b8cf60bc18e2320", func := "loop.example/g00350/laws.FnExactMayRaise", spec := "fnExactMayRaise", recurses := true, apart := false }
def FnExactMayRaiseSaid : Prop := fnExactMayRaiseRow.holds Try.pinned (OpenSpec.ofChange fnExactMayRaiseSpec)

/-- ITS FALSE NEIGHBOUR: 'it returns false'. Refute it at one input. -/
def fnExactMayRaiseWrong : ChangeSpec := { name := "fnExactMayRaise", fn := fun _ => fun
  | [d] => { results := [.lit (.bool false)], args := [d] }
  | _ => none }
def FnExactMayRaiseWrongFalsely : Prop := fnExactMayRaiseRow.holds Try.pinned (OpenSpec.ofChange fnExactMayRaiseWrong)

/- THE SECOND FORM. 'bulk': how many values and letters a reading holds, each counted each time it is reached (what is shared counts as often as it is met; a slice's spare places count too). A statement '..UptoSaid' is the law's where the arguments, and the package variables that the reading takes, are together of bulk at most 1048576: NARROWER than '..Said'. Prove '..Said' where nothing that the law and all that it calls make is longer than what came in: it says more and counts as full. Else prove '..UptoSaid'. A law counts once. -/
mutual
def uptoBulk {H : Type} : DataW H → Nat
  | .lit (.string bytes) => bytes.length + 1
  | .lit _ => 1
  | .nil => 1
  | .ptr d => uptoBulk d + 1
  | .slice elems spare => uptoBulkAll elems + uptoBulkAll spare + 1
  | .agg parts => uptoBulkAll parts + 1
  | .iface _ d => uptoBulk d + 1
  | .map entries => uptoBulkEntries entries + 1
  | .held _ => 1
def uptoBulkAll {H : Type} : List (DataW H) → Nat
  | [] => 0
  | d :: r => uptoBulk d + uptoBulkAll r
def uptoBulkEntries {H : Type} : List (Lit × DataW H) → Nat
  | [] => 0
  | x :: r => uptoBulkEntry x + uptoBulkEntries r
def uptoBulkEntry {H : Type} : Lit × DataW H → Nat
  | (.string bytes, d) => bytes.length + uptoBulk d + 1
  | (_, d) => uptoBulk d + 1
 end
def uptoSmall : (H : Type) → List (DataW H) → Bool := fun _ ds => decide (uptoBulkAll ds ≤ 1048576)
def OpenSpec.upto (s : _root_.Go.ChangeSpec) : _root_.Go.OpenSpec := { _root_.Go.OpenSpec.ofChange s with cond := some uptoSmall }

/-- 'laws.FnExactGoodTree2', WHERE WHAT IT READS IS OF BULK AT MOST 1048576: true; the input reads as it did. -/
def fnExactGoodTree2UptoRow : OpenClaim := { program := "ytbjfhcbgghpdaaa", sum := "0b36355f5156a8fcbedc88003ac8572f62d03eb1d6d04d023b8cf60bc18e2320", func := "loop.example/g00350/laws.FnExactGoodTree2", spec := "fnExactGoodTree2", recurses := true, apart := false, narrowed := true }
def FnExactGoodTree2UptoSaid : Prop := fnExactGoodTree2UptoRow.holds Try.pinned (OpenSpec.upto fnExactGoodTree2Spec)

/-- 'laws.FnExactGoodLined', WHERE WHAT IT READS IS OF BULK AT MOST 1048576: true; the input reads as it did. -/
def fnExactGoodLinedUptoRow : OpenClaim := { program := "ytbjfhcbgghpdaaa", sum := "0b36355f5156a8fcbedc88003ac8572f62d03eb1d6d04d023b8cf60bc18e2320", func := "loop.example/g00350/laws.FnExactGoodLined", spec := "fnExactGoodLined", apart := false, narrowed := true }
def FnExactGoodLinedUptoSaid : Prop := fnExactGoodLinedUptoRow.holds Try.pinned (OpenSpec.upto fnExactGoodLinedSpec)

/-- 'laws.FnExactGuardAt', WHERE WHAT IT READS IS OF BULK AT MOST 1048576: true; the input reads as it did. -/
def fnExactGuardAtUptoRow : OpenClaim := { program := "ytbjfhcbgghpdaaa", sum := "0b36355f5156a8fcbedc88003ac8572f62d03eb1d6d04d023b8cf60bc18e2320", func := "loop.example/g00350/laws.FnExactGuardAt", spec := "fnExactGuardAt", apart := false, narrowed := true }
def FnExactGuardAtUptoSaid : Prop := fnExactGuardAtUptoRow.holds Try.pinned (OpenSpec.upto fnExactGuardAtSpec)

/-- 'laws.FnExactMayRaise', WHERE WHAT IT READS IS OF BULK AT MOST 1048576: true; the input reads as it did. -/
def fnExactMayRaiseUptoRow : OpenClaim := { program := "ytbjfhcbgghpdaaa", sum := "0b36355f5156a8fcbedc88003ac8572f62d03eb1d6d04d023b8cf60bc18e2320", func := "loop.example/g00350/laws.FnExactMayRaise", spec := "fnExactMayRaise", recurses := true, apart := false, narrowed := true }
def FnExactMayRaiseUptoSaid : Prop := fnExactMayRaiseUptoRow.holds Try.pinned (OpenSpec.upto fnExactMayRaiseSpec)

end Rows
end Go.Proofs.Ytbjfhcbgghpdaaa

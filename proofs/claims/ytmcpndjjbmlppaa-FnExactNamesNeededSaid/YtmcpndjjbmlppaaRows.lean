/-
  No cell of these rows narrows 'for every input' (looked for: loops, veiled, ifaces, maps, wideKeys, modest, calm, conditions, laid).
  DERIVED. THE GIVEN ROWS OF THIS SEAT. 4 by the template 'for every input the law returns true; each argument reads behind the call as it read before'; 0 by the template 'total and deterministic' (their statements: YtmcpndjjbmlppaaTotals.lean).
  GIVEN WITH THE SEED: the statements are not yours to turn. If you find one false, say at which input.
  Laid BY PROGRAM, IN A SANDBOX (cutbox-rows.mjs): the forced cells as the released guide's own fill.sh prints them over the translation 0f3dd15b30c1bb44… (all of the seat's roots in one cut). By AI agents, Wed Nov 11 2026. No macro, syntax, notation, axiom, sorry.
-/
import Derived.Test.YtmcpndjjbmlppaaChecked
import GoSem.Claim
import GoSem.ClaimJoined
import GoSem.ClaimMapViews
import Derived.JoinedTies
import Derived.KernelRfl
namespace Go.Proofs.Ytmcpndjjbmlppaa
/- THE CELL 'sum', in the pinned program and in every row, IS THE sha256 OF THE DUMP (.gsa) THAT YtmcpndjjbmlppaaProg.lean LOADS. Nothing in Lean hashes anything: it is a label: what it is worth is what the hold of that sum in a sandbox is worth. -/
noncomputable def Try.pinned : Pinned := { name := "ytmcpndjjbmlppaa", sum := "0f3dd15b30c1bb44188725585165ed9fe33100a97c6dec66607f61b5592e4cb4", checked := Try.checked }
namespace Rows
def none {H : Type} : Left H := { results := [], args := [] }

/-- 'laws.FnExactGoodCode': WHATEVER THE INPUT: true; the input reads as it did. -/
def fnExactGoodCodeSpec : ChangeSpec := { name := "fnExactGoodCode", fn := fun _ => fun
  | [d] => { results := [.lit (.bool true)], args := [d] }
  | _ => none }
def fnExactGoodCodeRow : OpenClaim := { program := "ytmcpndjjbmlppaa", sum := "0f3dd15b30c1bb44188725585165ed9fe33100a97c6dec66607f61b5592e4cb4", func := "loop.example/g00350/laws.FnExactGoodCode", spec := "fnExactGoodCode", unfollowed := true, recurses := true, apart := false }
def FnExactGoodCodeSaid : Prop := fnExactGoodCodeRow.holds Try.pinned (OpenSpec.ofChange fnExactGoodCodeSpec)

/-- ITS FALSE NEIGHBOUR: 'it returns false'. Refute it at one input. -/
def fnExactGoodCodeWrong : ChangeSpec := { name := "fnExactGoodCode", fn := fun _ => fun
  | [d] => { results := [.lit (.bool false)], args := [d] }
  | _ => none }
def FnExactGoodCodeWrongFalsely : Prop := fnExactGoodCodeRow.holds Try.pinned (OpenSpec.ofChange fnExactGoodCodeWrong)

/-- 'laws.FnExactRunCode': WHATEVER THE INPUT: true; the input reads as it did. -/
def fnExactRunCodeSpec : ChangeSpec := { name := "fnExactRunCode", fn := fun _ => fun
  | [d1, d2] => { results := [.lit (.bool true)], args := [d1, d2] }
  | _ => none }
def fnExactRunCodeRow : OpenClaim := { program := "ytmcpndjjbmlppaa", sum := "0f3dd15b30c1bb44188725585165ed9fe33100a97c6dec66607f61b5592e4cb4", func := "loop.example/g00350/laws.FnExactRunCode", spec := "fnExactRunCode", unfollowed := true, recurses := true, apart := false }
def FnExactRunCodeSaid : Prop := fnExactRunCodeRow.holds Try.pinned (OpenSpec.ofChange fnExactRunCodeSpec)

/-- ITS FALSE NEIGHBOUR: 'it returns false'. Refute it at one input. -/
def fnExactRunCodeWrong : ChangeSpec := { name := "fnExactRunCode", fn := fun _ => fun
  | [d1, d2] => { results := [.lit (.bool false)], args := [d1, d2] }
  | _ => none }
def FnExactRunCodeWrongFalsely : Prop := fnExactRunCodeRow.holds Try.pinned (OpenSpec.ofChange fnExactRunCodeWrong)

/-- 'laws.FnExactNamesSet': WHATEVER THE INPUT: true; the input reads as it did. -/
def fnExactNamesSetSpec : ChangeSpec := { name := "fnExactNamesSet", fn := fun _ => fun
  | [d] => { results := [.lit (.bool true)], args := [d] }
  | _ => none }
def fnExactNamesSetRow : OpenClaim := { program := "ytmcpndjjbmlppaa", sum := "0f3dd15b30c1bb44188725585165ed9fe33100a97c6dec66607f61b5592e4cb4", func := "loop.example/g00350/laws.FnExactNamesSet", spec := "fnExactNamesSet", unfollowed := true, recurses := true, apart := false }
def FnExactNamesSetSaid : Prop := fnExactNamesSetRow.holds Try.pinned (OpenSpec.ofChange fnExactNamesSetSpec)

/-- ITS FALSE NEIGHBOUR: 'it returns false'. Refute it at one input. -/
def fnExactNamesSetWrong : ChangeSpec := { name := "fnExactNamesSet", fn := fun _ => fun
  | [d] => { results := [.lit (.bool false)], args := [d] }
  | _ => none }
def FnExactNamesSetWrongFalsely : Prop := fnExactNamesSetRow.holds Try.pinned (OpenSpec.ofChange fnExactNamesSetWrong)

/-- 'laws.FnExactNamesNeeded': WHATEVER THE INPUT: true; the input reads as it did. -/
def fnExactNamesNeededSpec : ChangeSpec := { name := "fnExactNamesNeeded", fn := fun _ => fun
  | [d] => { results := [.lit (.bool true)], args := [d] }
  | _ => none }
def fnExactNamesNeededRow : OpenClaim := { program := "ytmcpndjjbmlppaa", sum := "0f3dd15b30c1bb44188725585165ed9fe33100a97c6dec66607f61b5592e4cb4", func := "loop.example/g00350/laws.FnExactNamesNeeded", spec := "fnExactNamesNeeded", unfollowed := true, recurses := true, apart := false }
def FnExactNamesNeededSaid : Prop := fnExactNamesNeededRow.holds Try.pinned (OpenSpec.ofChange fnExactNamesNeededSpec)

/-- ITS FALSE NEIGHBOUR: 'it returns false'. Refute it at one input. -/
def fnExactNamesNeededWrong : ChangeSpec := { name := "fnExactNamesNeeded", fn := fun _ => fun
  | [d] => { results := [.lit (.bool false)], args := [d] }
  | _ => none }
def FnExactNamesNeededWrongFalsely : Prop := fnExactNamesNeededRow.holds Try.pinned (OpenSpec.ofChange fnExactNamesNeededWrong)

/- THE SECOND FORM. 'bulk': how many values and letters a reading holds, each counted each time it is reached (what is shared counts as often as it is met; a slice's spare places count too). A statement '..UptoSaid' is the law's where the arguments, and the package variables that the reading takes, are together of bulk at most 1048576: NARROWER than '..Said'. Prove '..Said' where nothing that the law and all that it calls make is longer than what came in: it says more and counts as full. Else prove '..UptoSaid'. A law counts once. -/
mutual
def uptoBulk {H : Type} : DataW H → Nat
  | .lit (.string bytes) => bytes.length + 1
  | .lit _ => 1
  | .nil => 1
  | .ptr d => uptoBulk d + 1
  | .slice elems spare => uptoBulkAll elems + uptoBulkAll spare + 1
  | .agg parts => uptoBulkAll parts + 1
  | .iface _ d => uptoBulk d + 1
  | .map entries => uptoBulkEntries entries + 1
  | .held _ => 1
def uptoBulkAll {H : Type} : List (DataW H) → Nat
  | [] => 0
  | d :: r => uptoBulk d + uptoBulkAll r
def uptoBulkEntries {H : Type} : List (Lit × DataW H) → Nat
  | [] => 0
  | x :: r => uptoBulkEntry x + uptoBulkEntries r
def uptoBulkEntry {H : Type} : Lit × DataW H → Nat
  | (.string bytes, d) => bytes.length + uptoBulk d + 1
  | (_, d) => uptoBulk d + 1
 end
def uptoSmall : (H : Type) → List (DataW H) → Bool := fun _ ds => decide (uptoBulkAll ds ≤ 1048576)
def OpenSpec.upto (s : _root_.Go.ChangeSpec) : _root_.Go.OpenSpec := { _root_.Go.OpenSpec.ofChange s with cond := some uptoSmall }

/-- 'laws.FnExactGoodCode', WHERE WHAT IT READS IS OF BULK AT MOST 1048576: true; the input reads as it did. -/
def fnExactGoodCodeUptoRow : OpenClaim := { program := "ytmcpndjjbmlppaa", sum := "0f3dd15b30c1bb44188725585165ed9fe33100a97c6dec66607f61b5592e4cb4", func := "loop.example/g00350/laws.FnExactGoodCode", spec := "fnExactGoodCode", unfollowed := true, recurses := true, apart := false, narrowed := true }
def FnExactGoodCodeUptoSaid : Prop := fnExactGoodCodeUptoRow.holds Try.pinned (OpenSpec.upto fnExactGoodCodeSpec)

/-- 'laws.FnExactRunCode', WHERE WHAT IT READS IS OF BULK AT MOST 1048576: true; the input reads as it did. -/
def fnExactRunCodeUptoRow : OpenClaim := { program := "ytmcpndjjbmlppaa", sum := "0f3dd15b30c1bb44188725585165ed9fe33100a97c6dec66607f61b5592e4cb4", func := "loop.example/g00350/laws.FnExactRunCode", spec := "fnExactRunCode", unfollowed := true, recurses := true, apart := false, narrowed := true }
def FnExactRunCodeUptoSaid : Prop := fnExactRunCodeUptoRow.holds Try.pinned (OpenSpec.upto fnExactRunCodeSpec)

/-- 'laws.FnExactNamesSet', WHERE WHAT IT READS IS OF BULK AT MOST 1048576: true; the input reads as it did. -/
def fnExactNamesSetUptoRow : OpenClaim := { program := "ytmcpndjjbmlppaa", sum := "0f3dd15b30c1bb44188725585165ed9fe33100a97c6dec66607f61b5592e4cb4", func := "loop.example/g00350/laws.FnExactNamesSet", spec := "fnExactNamesSet", unfollowed := true, recurses := true, apart := false, narrowed := true }
def FnExactNamesSetUptoSaid : Prop := fnExactNamesSetUptoRow.holds Try.pinned (OpenSpec.upto fnExactNamesSetSpec)

/-- 'laws.FnExactNamesNeeded', WHERE WHAT IT READS IS OF BULK AT MOST 1048576: true; the input reads as it did. -/
def fnExactNamesNeededUptoRow : OpenClaim := { program := "ytmcpndjjbmlppaa", sum := "0f3dd15b30c1bb44188725585165ed9fe33100a97c6dec66607f61b5592e4cb4", func := "loop.example/g00350/laws.FnExactNamesNeeded", spec := "fnExactNamesNeeded", unfollowed := true, recurses := true, apart := false, narrowed := true }
def FnExactNamesNeededUptoSaid : Prop := fnExactNamesNeededUptoRow.holds Try.pinned (OpenSpec.upto fnExactNamesNeededSpec)

end Rows
end Go.Proofs.Ytmcpndjjbmlppaa

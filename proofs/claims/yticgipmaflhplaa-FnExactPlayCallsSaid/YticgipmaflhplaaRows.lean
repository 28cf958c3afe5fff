/-
  No cell of these rows narrows 'for every input' (looked for: loops, veiled, ifaces, maps, wideKeys, modest, calm, conditions, laid).
  DERIVED. THE GIVEN ROWS OF THIS SEAT. 6 by the template 'for every input the law returns true; each argument reads behind the call as it read before'; 0 by the template 'total and deterministic' (their statements: YticgipmaflhplaaTotals.lean).
  GIVEN WITH THE SEED: the statements are not yours to turn. If you find one false, say at which input.
  Laid BY PROGRAM, IN A SANDBOX (cutbox-rows.mjs): the forced cells as the released guide's own fill.sh prints them over the translation a73e630717e275fe… (all of the seat's roots in one cut). By AI agents, Wed Nov 11 2026. No macro, syntax, notation, axiom, sorry.
-/
import Derived.Test.YticgipmaflhplaaChecked
import GoSem.Claim
import GoSem.ClaimJoined
import GoSem.ClaimMapViews
import Derived.JoinedTies
import Derived.KernelRfl
namespace Go.Proofs.Yticgipmaflhplaa
/- THE CELL 'sum', in the pinned program and in every row, IS THE sha256 OF THE DUMP (.gsa) THAT YticgipmaflhplaaProg.lean LOADS. Nothing in Lean hashes anything: it is a label: what it is worth is what the hold of that sum in a sandbox is worth. -/
noncomputable def Try.pinned : Pinned := { name := "yticgipmaflhplaa", sum := "a73e630717e275fee72386d2eafe4dcc52d36c34cc6fec50043aba986cfeebfc", checked := Try.checked }
namespace Rows
def none {H : Type} : Left H := { results := [], args := [] }

/-- 'laws.FnExactGoodWorld': WHATEVER THE INPUT: true; the input reads as it did. -/
def fnExactGoodWorldSpec : ChangeSpec := { name := "fnExactGoodWorld", fn := fun _ => fun
  | [d] => { results := [.lit (.bool true)], args := [d] }
  | _ => none }
def fnExactGoodWorldRow : OpenClaim := { program := "yticgipmaflhplaa", sum := "a73e630717e275fee72386d2eafe4dcc52d36c34cc6fec50043aba986cfeebfc", func := "loop.example/g00350/laws.FnExactGoodWorld", spec := "fnExactGoodWorld", apart := false }
def FnExactGoodWorldSaid : Prop := fnExactGoodWorldRow.holds Try.pinned (OpenSpec.ofChange fnExactGoodWorldSpec)

/-- ITS FALSE NEIGHBOUR: 'it returns false'. Refute it at one input. -/
def fnExactGoodWorldWrong : ChangeSpec := { name := "fnExactGoodWorld", fn := fun _ => fun
  | [d] => { results := [.lit (.bool false)], args := [d] }
  | _ => none }
def FnExactGoodWorldWrongFalsely : Prop := fnExactGoodWorldRow.holds Try.pinned (OpenSpec.ofChange fnExactGoodWorldWrong)

/-- 'laws.FnExactFindMethod': WHATEVER THE INPUT: true; the input reads as it did. -/
def fnExactFindMethodSpec : ChangeSpec := { name := "fnExactFindMethod", fn := fun _ => fun
  | [d1, d2, d3] => { results := [.lit (.bool true)], args := [d1, d2, d3] }
  | _ => none }
def fnExactFindMethodRow : OpenClaim := { program := "yticgipmaflhplaa", sum := "a73e630717e275fee72386d2eafe4dcc52d36c34cc6fec50043aba986cfeebfc", func := "loop.example/g00350/laws.FnExactFindMethod", spec := "fnExactFindMethod", inPlace := ["sync/atomic.LoadUint32", "(*internal/sync.Mutex).Lock", "internal/race.Disable", "sync/atomic.CompareAndSwapInt32", "internal/race.Enable", "internal/race.Acquire", "(*internal/sync.Mutex).lockSlow", "internal/sync.runtime_canSpin", "internal/sync.runtime_doSpin", "internal/sync.throw", "internal/sync.runtime_nanotime", "internal/sync.runtime_SemacquireMutex", "sync/atomic.AddInt32", "(*internal/sync.Mutex).Unlock", "internal/race.ReleaseMerge", "(*internal/sync.Mutex).unlockSlow", "internal/sync.fatal", "internal/sync.runtime_Semrelease", "sync/atomic.StoreUint32"], unfollowed := true, recurses := true, apart := false }
def FnExactFindMethodSaid : Prop := fnExactFindMethodRow.holds Try.pinned (OpenSpec.ofChange fnExactFindMethodSpec)

/-- ITS FALSE NEIGHBOUR: 'it returns false'. Refute it at one input. -/
def fnExactFindMethodWrong : ChangeSpec := { name := "fnExactFindMethod", fn := fun _ => fun
  | [d1, d2, d3] => { results := [.lit (.bool false)], args := [d1, d2, d3] }
  | _ => none }
def FnExactFindMethodWrongFalsely : Prop := fnExactFindMethodRow.holds Try.pinned (OpenSpec.ofChange fnExactFindMethodWrong)

/-- 'laws.FnExactSetMethod': WHATEVER THE INPUT: true; the input reads as it did. -/
def fnExactSetMethodSpec : ChangeSpec := { name := "fnExactSetMethod", fn := fun _ => fun
  | [d1, d2, d3, d4] => { results := [.lit (.bool true)], args := [d1, d2, d3, d4] }
  | _ => none }
def fnExactSetMethodRow : OpenClaim := { program := "yticgipmaflhplaa", sum := "a73e630717e275fee72386d2eafe4dcc52d36c34cc6fec50043aba986cfeebfc", func := "loop.example/g00350/laws.FnExactSetMethod", spec := "fnExactSetMethod", apart := false }
def FnExactSetMethodSaid : Prop := fnExactSetMethodRow.holds Try.pinned (OpenSpec.ofChange fnExactSetMethodSpec)

/-- ITS FALSE NEIGHBOUR: 'it returns false'. Refute it at one input. -/
def fnExactSetMethodWrong : ChangeSpec := { name := "fnExactSetMethod", fn := fun _ => fun
  | [d1, d2, d3, d4] => { results := [.lit (.bool false)], args := [d1, d2, d3, d4] }
  | _ => none }
def FnExactSetMethodWrongFalsely : Prop := fnExactSetMethodRow.holds Try.pinned (OpenSpec.ofChange fnExactSetMethodWrong)

/-- 'laws.FnExactNewCache': WHATEVER THE INPUT: true; the input reads as it did. -/
def fnExactNewCacheSpec : ChangeSpec := { name := "fnExactNewCache", fn := fun _ => fun
  | [d1, d2] => { results := [.lit (.bool true)], args := [d1, d2] }
  | _ => none }
def fnExactNewCacheRow : OpenClaim := { program := "yticgipmaflhplaa", sum := "a73e630717e275fee72386d2eafe4dcc52d36c34cc6fec50043aba986cfeebfc", func := "loop.example/g00350/laws.FnExactNewCache", spec := "fnExactNewCache", apart := false }
def FnExactNewCacheSaid : Prop := fnExactNewCacheRow.holds Try.pinned (OpenSpec.ofChange fnExactNewCacheSpec)

/-- ITS FALSE NEIGHBOUR: 'it returns false'. Refute it at one input. -/
def fnExactNewCacheWrong : ChangeSpec := { name := "fnExactNewCache", fn := fun _ => fun
  | [d1, d2] => { results := [.lit (.bool false)], args := [d1, d2] }
  | _ => none }
def FnExactNewCacheWrongFalsely : Prop := fnExactNewCacheRow.holds Try.pinned (OpenSpec.ofChange fnExactNewCacheWrong)

/-- 'laws.FnExactPlayCalls': WHATEVER THE INPUT: true; the input reads as it did. -/
def fnExactPlayCallsSpec : ChangeSpec := { name := "fnExactPlayCalls", fn := fun _ => fun
  | [d1, d2, d3] => { results := [.lit (.bool true)], args := [d1, d2, d3] }
  | _ => none }
def fnExactPlayCallsRow : OpenClaim := { program := "yticgipmaflhplaa", sum := "a73e630717e275fee72386d2eafe4dcc52d36c34cc6fec50043aba986cfeebfc", func := "loop.example/g00350/laws.FnExactPlayCalls", spec := "fnExactPlayCalls", inPlace := ["sync/atomic.StoreInt64", "sync/atomic.AddInt64", "sync/atomic.LoadUint32", "(*internal/sync.Mutex).Lock", "internal/race.Disable", "sync/atomic.CompareAndSwapInt32", "internal/race.Enable", "internal/race.Acquire", "(*internal/sync.Mutex).lockSlow", "internal/sync.runtime_canSpin", "internal/sync.runtime_doSpin", "internal/sync.throw", "internal/sync.runtime_nanotime", "internal/sync.runtime_SemacquireMutex", "sync/atomic.AddInt32", "(*internal/sync.Mutex).Unlock", "internal/race.ReleaseMerge", "(*internal/sync.Mutex).unlockSlow", "internal/sync.fatal", "internal/sync.runtime_Semrelease", "sync/atomic.StoreUint32", "sync/atomic.LoadInt64"], unfollowed := true, recurses := true, apart := false }
def FnExactPlayCallsSaid : Prop := fnExactPlayCallsRow.holds Try.pinned (OpenSpec.ofChange fnExactPlayCallsSpec)

/-- ITS FALSE NEIGHBOUR: 'it returns false'. Refute it at one input. -/
def fnExactPlayCallsWrong : ChangeSpec := { name := "fnExactPlayCalls", fn := fun _ => fun
  | [d1, d2, d3] => { results := [.lit (.bool false)], args := [d1, d2, d3] }
  | _ => none }
def FnExactPlayCallsWrongFalsely : Prop := fnExactPlayCallsRow.holds Try.pinned (OpenSpec.ofChange fnExactPlayCallsWrong)

/-- 'laws.FnExactSubclassOf': WHATEVER THE INPUT: true; the input reads as it did. -/
def fnExactSubclassOfSpec : ChangeSpec := { name := "fnExactSubclassOf", fn := fun _ => fun
  | [d1, d2, d3] => { results := [.lit (.bool true)], args := [d1, d2, d3] }
  | _ => none }
def fnExactSubclassOfRow : OpenClaim := { program := "yticgipmaflhplaa", sum := "a73e630717e275fee72386d2eafe4dcc52d36c34cc6fec50043aba986cfeebfc", func := "loop.example/g00350/laws.FnExactSubclassOf", spec := "fnExactSubclassOf", apart := false }
def FnExactSubclassOfSaid : Prop := fnExactSubclassOfRow.holds Try.pinned (OpenSpec.ofChange fnExactSubclassOfSpec)

/-- ITS FALSE NEIGHBOUR: 'it returns false'. Refute it at one input. -/
def fnExactSubclassOfWrong : ChangeSpec := { name := "fnExactSubclassOf", fn := fun _ => fun
  | [d1, d2, d3] => { results := [.lit (.bool false)], args := [d1, d2, d3] }
  | _ => none }
def FnExactSubclassOfWrongFalsely : Prop := fnExactSubclassOfRow.holds Try.pinned (OpenSpec.ofChange fnExactSubclassOfWrong)

/- THE SECOND FORM. 'bulk': how many values and letters a reading holds, each counted each time it is reached (what is shared counts as often as it is met; a slice's spare places count too). A statement '..UptoSaid' is the law's where the arguments, and the package variables that the reading takes, are together of bulk at most 1048576: NARROWER than '..Said'. Prove '..Said' where nothing that the law and all that it calls make is longer than what came in: it says more and counts as full. Else prove '..UptoSaid'. A law counts once. -/
mutual
def uptoBulk {H : Type} : DataW H → Nat
  | .lit (.string bytes) => bytes.length + 1
  | .lit _ => 1
  | .nil => 1
  | .ptr d => uptoBulk d + 1
  | .slice elems spare => uptoBulkAll elems + uptoBulkAll spare + 1
  | .agg parts => uptoBulkAll parts + 1
  | .iface _ d => uptoBulk d + 1
  | .map entries => uptoBulkEntries entries + 1
  | .held _ => 1
def uptoBulkAll {H : Type} : List (DataW H) → Nat
  | [] => 0
  | d :: r => uptoBulk d + uptoBulkAll r
def uptoBulkEntries {H : Type} : List (Lit × DataW H) → Nat
  | [] => 0
  | x :: r => uptoBulkEntry x + uptoBulkEntries r
def uptoBulkEntry {H : Type} : Lit × DataW H → Nat
  | (.string bytes, d) => bytes.length + uptoBulk d + 1
  | (_, d) => uptoBulk d + 1
 end
def uptoSmall : (H : Type) → List (DataW H) → Bool := fun _ ds => decide (uptoBulkAll ds ≤ 1048576)
def OpenSpec.upto (s : _root_.Go.ChangeSpec) : _root_.Go.OpenSpec := { _root_.Go.OpenSpec.ofChange s with cond := some uptoSmall }

/-- 'laws.FnExactGoodWorld', WHERE WHAT IT READS IS OF BULK AT MOST 1048576: true; the input reads as it did. -/
def fnExactGoodWorldUptoRow : OpenClaim := { program := "yticgipmaflhplaa", sum := "a73e630717e275fee72386d2eafe4dcc52d36c34cc6fec50043aba986cfeebfc", func := "loop.example/g00350/laws.FnExactGoodWorld", spec := "fnExactGoodWorld", apart := false, narrowed := true }
def FnExactGoodWorldUptoSaid : Prop := fnExactGoodWorldUptoRow.holds Try.pinned (OpenSpec.upto fnExactGoodWorldSpec)

/-- 'laws.FnExactFindMethod', WHERE WHAT IT READS IS OF BULK AT MOST 1048576: true; the input reads as it did. -/
def fnExactFindMethodUptoRow : OpenClaim := { program := "yticgipmaflhplaa", sum := "a73e630717e275fee72386d2eafe4dcc52d36c34cc6fec50043aba986cfeebfc", func := "loop.example/g00350/laws.FnExactFindMethod", spec := "fnExactFindMethod", inPlace := ["sync/atomic.LoadUint32", "(*internal/sync.Mutex).Lock", "internal/race.Disable", "sync/atomic.CompareAndSwapInt32", "internal/race.Enable", "internal/race.Acquire", "(*internal/sync.Mutex).lockSlow", "internal/sync.runtime_canSpin", "internal/sync.runtime_doSpin", "internal/sync.throw", "internal/sync.runtime_nanotime", "internal/sync.runtime_SemacquireMutex", "sync/atomic.AddInt32", "(*internal/sync.Mutex).Unlock", "internal/race.ReleaseMerge", "(*internal/sync.Mutex).unlockSlow", "internal/sync.fatal", "internal/sync.runtime_Semrelease", "sync/atomic.StoreUint32"], unfollowed := true, recurses := true, apart := false, narrowed := true }
def FnExactFindMethodUptoSaid : Prop := fnExactFindMethodUptoRow.holds Try.pinned (OpenSpec.upto fnExactFindMethodSpec)

/-- 'laws.FnExactSetMethod', WHERE WHAT IT READS IS OF BULK AT MOST 1048576: true; the input reads as it did. -/
def fnExactSetMethodUptoRow : OpenClaim := { program := "yticgipmaflhplaa", sum := "a73e630717e275fee72386d2eafe4dcc52d36c34cc6fec50043aba986cfeebfc", func := "loop.example/g00350/laws.FnExactSetMethod", spec := "fnExactSetMethod", apart := false, narrowed := true }
def FnExactSetMethodUptoSaid : Prop := fnExactSetMethodUptoRow.holds Try.pinned (OpenSpec.upto fnExactSetMethodSpec)

/-- 'laws.FnExactNewCache', WHERE WHAT IT READS IS OF BULK AT MOST 1048576: true; the input reads as it did. -/
def fnExactNewCacheUptoRow : OpenClaim := { program := "yticgipmaflhplaa", sum := "a73e630717e275fee72386d2eafe4dcc52d36c34cc6fec50043aba986cfeebfc", func := "loop.example/g00350/laws.FnExactNewCache", spec := "fnExactNewCache", apart := false, narrowed := true }
def FnExactNewCacheUptoSaid : Prop := fnExactNewCacheUptoRow.holds Try.pinned (OpenSpec.upto fnExactNewCacheSpec)

/-- 'laws.FnExactPlayCalls', WHERE WHAT IT READS IS OF BULK AT MOST 1048576: true; the input reads as it did. -/
def fnExactPlayCallsUptoRow : OpenClaim := { program := "yticgipmaflhplaa", sum := "a73e630717e275fee72386d2eafe4dcc52d36c34cc6fec50043aba986cfeebfc", func := "loop.example/g00350/laws.FnExactPlayCalls", spec := "fnExactPlayCalls", inPlace := ["sync/atomic.StoreInt64", "sync/atomic.AddInt64", "sync/atomic.LoadUint32", "(*internal/sync.Mutex).Lock", "internal/race.Disable", "sync/atomic.CompareAndSwapInt32", "internal/race.Enable", "internal/race.Acquire", "(*internal/sync.Mutex).lockSlow", "internal/sync.runtime_canSpin", "internal/sync.runtime_doSpin", "internal/sync.throw", "internal/sync.runtime_nanotime", "internal/sync.runtime_SemacquireMutex", "sync/atomic.AddInt32", "(*internal/sync.Mutex).Unlock", "internal/race.ReleaseMerge", "(*internal/sync.Mutex).unlockSlow", "internal/sync.fatal", "internal/sync.runtime_Semrelease", "sync/atomic.StoreUint32", "sync/atomic.LoadInt64"], unfollowed := true, recurses := true, apart := false, narrowed := true }
def FnExactPlayCallsUptoSaid : Prop := fnExactPlayCallsUptoRow.holds Try.pinned (OpenSpec.upto fnExactPlayCallsSpec)

/-- 'laws.FnExactSubclassOf', WHERE WHAT IT READS IS OF BULK AT MOST 1048576: true; the input reads as it did. -/
def fnExactSubclassOfUptoRow : OpenClaim := { program := "yticgipmaflhplaa", sum := "a73e630717e275fee72386d2eafe4dcc52d36c34cc6fec50043aba986cfeebfc", func := "loop.example/g00350/laws.FnExactSubclassOf", spec := "fnExactSubclassOf", apart := false, narrowed := true }
def FnExactSubclassOfUptoSaid : Prop := fnExactSubclassOfUptoRow.holds Try.pinned (OpenSpec.upto fnExactSubclassOfSpec)

end Rows
end Go.Proofs.Yticgipmaflhplaa
